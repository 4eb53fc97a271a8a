/-
  NodeAll's function: what it does to what has been gone through.
-/
import Derived.Test.YthnapcdanccohaaDoorNdFind
import Derived.Test.YthnapcdanccohaaDoorNdWxA
namespace Go.Proofs.YthnapcdanccohaaDoor
open Go.RowKit Go.Lib Go.Sort
set_option linter.unusedSimpArgs false
set_option linter.unusedVariables false
def AllR (s : FS) (x : Nd) (_ : Nat) (s' : FS) : Prop := s'.l = s.l ++ [x]
theorem all_rs : ∀ (xs : List (Nd × Nat)) (s s' : FS), RS AllR s xs s' → s'.l = s.l ++ xs.map (·.1)
  | [], s, s', h => by have : s' = s := h; simp [this]
  | x :: xs, s, s', ⟨m, hm, h⟩ => by
    rw [all_rs xs m s' h, hm]
    simp
theorem all_len {s0 s : FS} {m : Nat} (h : Done AllR s0 s m) (h0 : s0.l = []) : s.l.length ≤ m := by
  obtain ⟨xs, h1, rfl⟩ := h
  rw [all_rs xs s0 s h1, h0]
  simp
set_option maxHeartbeats 8000000 in
set_option maxRecDepth 100000 in
theorem all1_any (B0 gt gf B : Nat) (tok : Int) (W0 : World) (hW0 : W0.heap.size = B0) (hB0 : True ∧ B0 ≤ gf ∧ gt < B ∧ gf < B ∧ gt ≠ gf) (s : FS) (w : World) (k t : Int) (a : Option Addr) (n cap : Nat) (c : F) (d : Nat)
    (h : FindI B0 gt gf B tok s w) (hc : Sl W0 a n cap c) (hw : Below W0.heap.size W0 w) (hl : s.l.length ≤ 2000002) :
    Calls Tryd.prog 17 #[.agg #[.int .i64 k, .int .i64 t, .slice a n cap], .pointer (some ⟨gf, 0, none⟩), .pointer (some ⟨gt, 0, none⟩)] w fun e w' => e = .returned (.bool (k != tok)) ∧ ∃ s', AllR s ⟨k, t, c⟩ d s' ∧ FindI B0 gt gf B tok s' w' ∧ Moves (FindC gt gf s) (FindC gt gf s') w w' := by
  have hA := below_alloc w (.cells #[.int .i64 k, .int .i64 t, .slice a n cap] 26 (0, 0))
  have hnb := nblk_new w k t a n cap
  have hle := h.le
  have hws := hw.size
  obtain ⟨h1, h2, h3, h4, xs, hown, hrd⟩ := h
  have hxl : xs.length = s.l.length := by rw [hrd.len, ofL_len]
  obtain ⟨v, l, O⟩ := s
  dsimp only at *
  have hvs : ∃ pv nv cv, v = .slice pv nv cv ∧ nv = xs.length := by
    rcases hown.2 with ⟨hv, h0⟩ | ⟨g, cap, cur, hv, _⟩
    · exact ⟨none, 0, 0, hv, h0.symm⟩
    · exact ⟨_, _, _, hv, rfl⟩
  obtain ⟨pv, nv, cv, hv, rfl⟩ := hvs
  have c1 := (h1.alloc (.cells #[.int .i64 k, .int .i64 t, .slice a n cap] 26 (0, 0))).cell
  have h2A := h2.alloc (.cells #[.int .i64 k, .int .i64 t, .slice a n cap] 26 (0, 0))
  have c1' := h1.cell
  have hl1 := h1.lt
  obtain ⟨y0, y1, y2⟩ := hnb.box
  have hsP : SlQ (fun g => g < B0 ∨ w.heap.size ≤ g) w a n cap c := (hc.mono (P' := fun g => g < B0 ∨ w.heap.size ≤ g) (fun g hg => .inl (by have := hg.lt; omega))).below hw
  have hsA := hsP.below hA
  have hxl2 : xs.length ≤ 2000002 := by omega
  replace hxl := hide hxl
  replace h1 := hide h1
  replace h2 := hide h2
  replace hrd := hide hrd
  replace h4 := hide h4
  replace hnb := hide hnb
  replace hc := hide hc
  replace hw := hide hw
  replace hsP := hide hsP
  replace hv := hide hv
  go_enter Tryd.func17, Tryd.ntmps17
  go_upto_region 1 with fail
  clear c1 c1' y0 y1 y2
  obtain ⟨WA, hWA⟩ : ∃ WA, w.alloc (.cells #[.int .i64 k, .int .i64 t, .slice a n cap] 26 (0, 0)) = WA := ⟨_, rfl⟩
  obtain ⟨gb, hgb⟩ : ∃ gb, w.heap.size = gb := ⟨_, rfl⟩
  rw [hWA] at hA h2A hsA hnb ⊢
  rw [hgb] at hA hle hws hnb hsA ⊢
  have hsz : WA.heap.size = gb + 1 := by rw [← hWA, ← hgb]; simp
  refine wp_region_D (fun w' => Cell1 w' gf 24 v ∧ NBlk w' gb k t a n cap) (fun j => [5, 6, 7].contains j) (by kernel_rfl) ?_
  have hS : Cell1 WA.drew gf 24 v ∧ NBlk WA.drew gb k t a n cap := ⟨h2A, unhide hnb⟩
  have hbD : Below gb w WA.drew := hA.drew
  have hsD : SlQ (fun g => g < B0 ∨ gb ≤ g) WA.drew a n cap c := hsA.below ((Below.refl _ _).drew)
  have hszD : WA.drew.heap.size = gb + 1 := hsz
  clear hA h2A hsA hsz hWA
  generalize World.drew WA = WD at hS hbD hsD hszD ⊢
  refine wpAnyD_takeC (i := 0) (v := v) [5, 6, 7] (fun _ => rfl) rfl (by kernel_rfl) 3 (by kernel_rfl) rfl (by kernel_rfl) (by kernel_rfl) (by kernel_rfl) (fun _ _ _ h => h) (Or.inl ⟨by kernel_rfl, ?_⟩) hS ?_
  · intro w hSw
    have hc2 := hSw.1.cell
    have hv2 := unhide hv
    rw [hv2] at hc2 ⊢
    go_simp
  try simp only [List.getElem_toArray, List.getElem_cons_succ, List.getElem_cons_zero, Act.put, List.setIfInBounds_toArray, List.set_cons_zero, List.set_cons_succ]
  refine wpAnyD_takeC (i := 1) (v := .agg #[.int .i64 k, .int .i64 t, .slice a n cap]) [5, 6, 7] (fun _ => rfl) rfl (by kernel_rfl) 3 (by kernel_rfl) rfl (by kernel_rfl) (by kernel_rfl) (by kernel_rfl) (fun _ _ _ h => h) (Or.inl ⟨by kernel_rfl, ?_⟩) hS ?_
  · intro w hSw
    obtain ⟨z0, z1, z2⟩ := hSw.2.box
    go_simp
  try simp only [List.getElem_toArray, List.getElem_cons_succ, List.getElem_cons_zero, Act.put, List.setIfInBounds_toArray, List.set_cons_zero, List.set_cons_succ]
  refine wpAnyD_takeC (i := 2) (v := .int .i64 xs.length) [5, 6, 7] (fun _ => rfl) rfl (by kernel_rfl) 3 (by kernel_rfl) rfl (by kernel_rfl) (by kernel_rfl) (by kernel_rfl) (fun _ _ _ h => h) (Or.inl ⟨by kernel_rfl, ?_⟩) hS ?_
  · intro w hSw
    have hv2 := unhide hv
    rw [hv2]
    go_simp
  try simp only [List.getElem_toArray, List.getElem_cons_succ, List.getElem_cons_zero, Act.put, List.setIfInBounds_toArray, List.set_cons_zero, List.set_cons_succ]
  refine wpAnyD_one (i := 3) rfl (by kernel_rfl) (fun K hK => ?_)
  rw [if_pos (by kernel_rfl)]
  refine oper_of_run (run_build_node WD _ _ _ _ _ _ _ 0 0 none 0 0 rfl) ?_
  have hbz := below_alloc WD (.cells #[.int .i64 0, .int .i64 0, .slice none 0 0] 26 (0, 0))
  have hb2 : Below gb w (WD.alloc (.cells #[.int .i64 0, .int .i64 0, .slice none 0 0] 26 (0, 0))) := hbD.trans (hbz.mono (by omega))
  have hsl2 := hsD.below hbz
  have hzn : ∀ (j : Nat) (u : Value), (nvC [zeroN])[j]? = some u → (WD.alloc (.cells #[.int .i64 0, .int .i64 0, .slice none 0 0] 26 (0, 0))).cell? (Addr.add ⟨WD.heap.size, 0, none⟩ j) = some u := by
    intro j u hj
    rw [show Addr.add ⟨WD.heap.size, 0, none⟩ j = ⟨WD.heap.size, j, none⟩ by simp [Addr.add]; omega, World.cell?_alloc_mark, List.getElem?_toArray]
    exact hj
  have hS2 : Cell1 (WD.alloc (.cells #[.int .i64 0, .int .i64 0, .slice none 0 0] 26 (0, 0))) gf 24 v ∧ NBlk (WD.alloc (.cells #[.int .i64 0, .int .i64 0, .slice none 0 0] 26 (0, 0))) gb k t a n cap :=
    ⟨hS.1.alloc _, hS.2.same (hbz.block gb hS.2.lt)⟩
  have hzs : (WD.alloc (.cells #[.int .i64 0, .int .i64 0, .slice none 0 0] 26 (0, 0))).heap.size = WD.heap.size + 1 := by simp
  refine hK _ _ (fun _ => hS2) ?_
  clear hK K
  generalize WD.alloc (.cells #[.int .i64 0, .int .i64 0, .slice none 0 0] 26 (0, 0)) = W2 at *
  generalize WD.heap.size = z at *
  clear hbz hS
  have hS := hS2
  try simp only [List.getElem_toArray, List.getElem_cons_succ, List.getElem_cons_zero, Act.put, List.setIfInBounds_toArray, List.set_cons_zero, List.set_cons_succ]
  refine wpAnyD_one (i := 4) rfl (by kernel_rfl) (fun K hK => ?_)
  rw [if_pos (by kernel_rfl)]
  have hs2w : w.heap.size ≤ W2.heap.size := hb2.size
  have ho2 : OwnN W2 B v xs := rowN_kept hown (fun g hg => hb2.block g (by have := (World.ownsRow.lt hown g hg).2; omega))
  obtain ⟨i0, hi, hz0, hz1, hz2⟩ := info_parts Tryd.info26
  refine wp_append_lies W2 _ _ 24 rfl B 26 i0 _ 3 40 Tryd.underlying24 hi hz0 hz1 hz2 rfl (by decide) v xs.length (nvC xs) rfl ho2 ⟨z, 0, none⟩ 1 1 (nvC [zeroN]) rfl rfl hzn (one_nv _) (by omega) (by unfold maxLen; omega) (by omega) (by omega) _ rfl ?_
  intro g cq W3 hown3 hg3 hat3 hlt3
  have hm3 : (nvC xs).length = xs.length * 3 := nvC_len xs
  have ho3 : OwnN W3 B (.slice (some ⟨g, 0, none⟩) (xs.length + 1) cq) (xs ++ [zeroN]) := by
    unfold OwnN
    rw [nvC_app, List.length_append]
    exact hown3
  have hnf : v.ownBlock ≠ some gf := fun e => by have := (World.ownsRow.lt hown gf e).1; omega
  have hnb3 : v.ownBlock ≠ some gb := fun e => by have := (World.ownsRow.lt hown gb e).2; omega
  have hS3 : Cell1 W3 gf 24 v ∧ NBlk W3 gb k t a n cap := ⟨hS.1.same (hg3.block gf hS.1.lt (fun e => hnf e.symm)), hS.2.same (hg3.block gb hS.2.lt (fun e => hnb3 e.symm))⟩
  refine hK _ _ (fun _ => hS3) ?_
  clear hK K hown3 hS
  have hS := hS3
  try simp only [List.getElem_toArray, List.getElem_cons_succ, List.getElem_cons_zero, Act.put, List.setIfInBounds_toArray, List.set_cons_zero, List.set_cons_succ]
  obtain ⟨w0, w1, w2, wf⟩ := own_cells ho3 rfl
  have f0 := wf (xs.length * 3)
  have f1 := wf (xs.length * 3 + 1)
  have f2 := wf (xs.length * 3 + 2)
  have fb := hS.1.frozen
  have cb := hS.1.cell
  simp only [zeroN] at w0 w1 w2
  clear wf
  have hgf : g ≠ gf := by
    rcases hat3 with h | h
    · intro e; exact hnf (by rw [h, e])
    · omega
  have hgf' : gf ≠ g := fun e => hgf e.symm
  have hgg : gb ≠ g := by
    rcases hat3 with h | h
    · intro e; exact hnb3 (by rw [h, e])
    · omega
  have hgbf : gb ≠ gf := by omega
  have hlz : (xs.length : Int) < xs.length + 1 := by omega
  have hlz2 : ¬ ((xs.length : Int) + 1 ≤ xs.length) := by omega
  replace ho3 := hide ho3
  replace hg3 := hide hg3
  refine wpAnyD_two (i := 5) (i' := 7) rfl rfl (by kernel_rfl) (fun K hK => ?_) (fun K hK => ?_)
  · rw [if_pos (by kernel_rfl)]
    refine oper_of_run (v := .pointer (some ⟨g, xs.length * 3, none⟩)) (w' := W3) (by clear hK w0 w1 w2 f0 f1 f2 fb cb; go_simp) ?_
    refine hK _ _ (fun h => by cases h) ?_
    clear hK K
    try simp only [List.getElem_toArray, List.getElem_cons_succ, List.getElem_cons_zero, Act.put, List.setIfInBounds_toArray, List.set_cons_zero, List.set_cons_succ]
    refine wpAnyD_two (i := 6) (i' := 7) rfl rfl (by kernel_rfl) (fun K hK => ?_) (fun K hK => ?_)
    · rw [if_pos (by kernel_rfl)]
      replace hK := hide hK
      go_simp
      refine unhide hK _ _ (fun h => by cases h) ?_
      clear hK K
      try simp only [List.getElem_toArray, List.getElem_cons_succ, List.getElem_cons_zero, Act.put, List.setIfInBounds_toArray, List.set_cons_zero, List.set_cons_succ]
      have ho4 := own_put (unhide ho3) rfl ⟨k, t, a, n, cap⟩
      dsimp only at ho4
      have hh4 : ∀ x, x ≠ g → (((W3.setCell ⟨g, xs.length * 3, none⟩ (.int .i64 k)).setCell ⟨g, xs.length * 3 + 1, none⟩ (.int .i64 t)).setCell ⟨g, xs.length * 3 + 2, none⟩ (.slice a n cap)).heap[x]? = W3.heap[x]? := fun x hx => by rw [Below.heap_setCell _ _ _ x hx, Below.heap_setCell _ _ _ x hx, Below.heap_setCell _ _ _ x hx]
      have hsz4 : (((W3.setCell ⟨g, xs.length * 3, none⟩ (.int .i64 k)).setCell ⟨g, xs.length * 3 + 1, none⟩ (.int .i64 t)).setCell ⟨g, xs.length * 3 + 2, none⟩ (.slice a n cap)).heap.size = W3.heap.size := by simp
      have hos4 : (((W3.setCell ⟨g, xs.length * 3, none⟩ (.int .i64 k)).setCell ⟨g, xs.length * 3 + 1, none⟩ (.int .i64 t)).setCell ⟨g, xs.length * 3 + 2, none⟩ (.slice a n cap)).os = W3.os := rfl
      have hta4 : (((W3.setCell ⟨g, xs.length * 3, none⟩ (.int .i64 k)).setCell ⟨g, xs.length * 3 + 1, none⟩ (.int .i64 t)).setCell ⟨g, xs.length * 3 + 2, none⟩ (.slice a n cap)).tape = W3.tape := rfl
      have hou4 : (((W3.setCell ⟨g, xs.length * 3, none⟩ (.int .i64 k)).setCell ⟨g, xs.length * 3 + 1, none⟩ (.int .i64 t)).setCell ⟨g, xs.length * 3 + 2, none⟩ (.slice a n cap)).output = W3.output := rfl
      have hc4 := hS.1.same (hh4 gf hgf')
      generalize (((W3.setCell ⟨g, xs.length * 3, none⟩ (.int .i64 k)).setCell ⟨g, xs.length * 3 + 1, none⟩ (.int .i64 t)).setCell ⟨g, xs.length * 3 + 2, none⟩ (.slice a n cap)) = W4 at *
      have cb4 := hc4.cell
      have fb4 := hc4.frozen
      refine wpAnyD_one (i := 7) rfl (by kernel_rfl) (fun K hK => ?_)
      rw [if_pos (by kernel_rfl)]
      replace hK := hide hK
      clear w0 w1 w2 f0 f1 f2 fb cb
      go_simp
      refine unhide hK _ _ (fun h => by cases h) ?_
      clear hK K cb4 fb4
      try simp only [List.getElem_toArray, List.getElem_cons_succ, List.getElem_cons_zero, Act.put, List.setIfInBounds_toArray, List.set_cons_zero, List.set_cons_succ]
      have hoX1 : (W4.setCell ⟨gf, 0, none⟩ (.slice (some ⟨g, 0, none⟩) (xs.length + 1) cq)).os = W3.os := hos4
      have hoX2 : (W4.setCell ⟨gf, 0, none⟩ (.slice (some ⟨g, 0, none⟩) (xs.length + 1) cq)).tape = W3.tape := hta4
      have hoX3 : (W4.setCell ⟨gf, 0, none⟩ (.slice (some ⟨g, 0, none⟩) (xs.length + 1) cq)).output = W3.output := hou4
      have hoX4 : (W4.setCell ⟨gf, 0, none⟩ (.slice (some ⟨g, 0, none⟩) (xs.length + 1) cq)).heap.size = W3.heap.size := by simp; exact hsz4
      have hoX5 : ∀ x, x ≠ g → x ≠ gf → (W4.setCell ⟨gf, 0, none⟩ (.slice (some ⟨g, 0, none⟩) (xs.length + 1) cq)).heap[x]? = W3.heap[x]? := fun x hx hx2 => by rw [Below.heap_setCell _ _ _ x hx2]; exact hh4 x hx
      have hoX6 : OwnN (W4.setCell ⟨gf, 0, none⟩ (.slice (some ⟨g, 0, none⟩) (xs.length + 1) cq)) B (.slice (some ⟨g, 0, none⟩) (xs.length + 1) cq) (xs ++ [⟨k, t, a, n, cap⟩]) := rowN_kept ho4 (fun x hx => Below.heap_setCell _ _ _ x (fun e => by
        have hx : g = x := by simpa [Value.ownBlock] using hx
        exact hgf (hx.trans e)))
      have hoX7 := hc4.set (.slice (some ⟨g, 0, none⟩) (xs.length + 1) cq)
      have hfin := hide (find_fin (X := W4.setCell ⟨gf, 0, none⟩ (.slice (some ⟨g, 0, none⟩) (xs.length + 1) cq)) (k := k) (t := t) (c := c) (n := n) (a' := a) (cap' := cap) (tok := tok) (l := l) (O := O) hB0 hgb hle (unhide h1) (unhide h4) hown (unhide hrd) hb2 hsl2 (unhide hg3) hat3 hlt3 hoX1 hoX2 hoX3 hoX4 hoX5 hoX6 hoX7)
      generalize W4.setCell ⟨gf, 0, none⟩ (.slice (some ⟨g, 0, none⟩) (xs.length + 1) cq) = X at *
      obtain ⟨x0, x1, x2⟩ := (hS.2.same (hoX5 gb hgg hgbf)).box
      have cst := (unhide hfin).1.tok.cell
      refine wpAnyD_done (by kernel_rfl) ?_ _
      clear hoX1 hoX2 hoX3 hoX4 hoX5 hoX6 hoX7
      go_wp2
      go_ret
      exact ⟨rfl, _, by show l ++ [(⟨k, t, c⟩ : Nd)] = l ++ [(⟨k, t, c⟩ : Nd)]; rfl, (unhide hfin).1, (unhide hfin).2⟩
    · rw [if_pos (by kernel_rfl)]
      replace hK := hide hK
      go_simp
      have hc4 := hS.1.set (.slice (some ⟨g, 0, none⟩) (xs.length + 1) cq)
      have hh4 : ∀ x, x ≠ gf → (W3.setCell ⟨gf, 0, none⟩ (.slice (some ⟨g, 0, none⟩) (xs.length + 1) cq)).heap[x]? = W3.heap[x]? := fun x hx => Below.heap_setCell _ _ _ x hx
      have hsz4 : (W3.setCell ⟨gf, 0, none⟩ (.slice (some ⟨g, 0, none⟩) (xs.length + 1) cq)).heap.size = W3.heap.size := by simp
      have hos4 : (W3.setCell ⟨gf, 0, none⟩ (.slice (some ⟨g, 0, none⟩) (xs.length + 1) cq)).os = W3.os := rfl
      have hta4 : (W3.setCell ⟨gf, 0, none⟩ (.slice (some ⟨g, 0, none⟩) (xs.length + 1) cq)).tape = W3.tape := rfl
      have hou4 : (W3.setCell ⟨gf, 0, none⟩ (.slice (some ⟨g, 0, none⟩) (xs.length + 1) cq)).output = W3.output := rfl
      have ho4 : OwnN (W3.setCell ⟨gf, 0, none⟩ (.slice (some ⟨g, 0, none⟩) (xs.length + 1) cq)) B (.slice (some ⟨g, 0, none⟩) (xs.length + 1) cq) (xs ++ [zeroN]) := rowN_kept (unhide ho3) (fun x hx => hh4 x (fun e => by
        have hx : g = x := by simpa [Value.ownBlock] using hx
        exact hgf (hx.trans e)))
      refine unhide hK _ _ (fun h => by cases h) ?_
      clear hK K w0 w1 w2 f0 f1 f2 fb cb
      generalize W3.setCell ⟨gf, 0, none⟩ (.slice (some ⟨g, 0, none⟩) (xs.length + 1) cq) = W4 at *
      obtain ⟨w0, w1, w2, wf⟩ := own_cells ho4 rfl
      have f0 := wf (xs.length * 3)
      have f1 := wf (xs.length * 3 + 1)
      have f2 := wf (xs.length * 3 + 2)
      simp only [zeroN] at w0 w1 w2
      clear wf
      try simp only [List.getElem_toArray, List.getElem_cons_succ, List.getElem_cons_zero, Act.put, List.setIfInBounds_toArray, List.set_cons_zero, List.set_cons_succ]
      refine wpAnyD_one (i := 6) rfl (by kernel_rfl) (fun K hK => ?_)
      rw [if_pos (by kernel_rfl)]
      replace hK := hide hK
      go_simp
      refine unhide hK _ _ (fun h => by cases h) ?_
      clear hK K w0 w1 w2 f0 f1 f2
      try simp only [List.getElem_toArray, List.getElem_cons_succ, List.getElem_cons_zero, Act.put, List.setIfInBounds_toArray, List.set_cons_zero, List.set_cons_succ]
      have hoX1 : (((W4.setCell ⟨g, xs.length * 3, none⟩ (.int .i64 k)).setCell ⟨g, xs.length * 3 + 1, none⟩ (.int .i64 t)).setCell ⟨g, xs.length * 3 + 2, none⟩ (.slice a n cap)).os = W3.os := hos4
      have hoX2 : (((W4.setCell ⟨g, xs.length * 3, none⟩ (.int .i64 k)).setCell ⟨g, xs.length * 3 + 1, none⟩ (.int .i64 t)).setCell ⟨g, xs.length * 3 + 2, none⟩ (.slice a n cap)).tape = W3.tape := hta4
      have hoX3 : (((W4.setCell ⟨g, xs.length * 3, none⟩ (.int .i64 k)).setCell ⟨g, xs.length * 3 + 1, none⟩ (.int .i64 t)).setCell ⟨g, xs.length * 3 + 2, none⟩ (.slice a n cap)).output = W3.output := hou4
      have hoX4 : (((W4.setCell ⟨g, xs.length * 3, none⟩ (.int .i64 k)).setCell ⟨g, xs.length * 3 + 1, none⟩ (.int .i64 t)).setCell ⟨g, xs.length * 3 + 2, none⟩ (.slice a n cap)).heap.size = W3.heap.size := by simp; exact hsz4
      have hoX5 : ∀ x, x ≠ g → x ≠ gf → (((W4.setCell ⟨g, xs.length * 3, none⟩ (.int .i64 k)).setCell ⟨g, xs.length * 3 + 1, none⟩ (.int .i64 t)).setCell ⟨g, xs.length * 3 + 2, none⟩ (.slice a n cap)).heap[x]? = W3.heap[x]? := fun x hx hx2 => by rw [Below.heap_setCell _ _ _ x hx, Below.heap_setCell _ _ _ x hx, Below.heap_setCell _ _ _ x hx]; exact hh4 x hx2
      have hoX6 := own_put ho4 rfl ⟨k, t, a, n, cap⟩
      dsimp only at hoX6
      have hoX7 : Cell1 (((W4.setCell ⟨g, xs.length * 3, none⟩ (.int .i64 k)).setCell ⟨g, xs.length * 3 + 1, none⟩ (.int .i64 t)).setCell ⟨g, xs.length * 3 + 2, none⟩ (.slice a n cap)) gf 24 (.slice (some ⟨g, 0, none⟩) (xs.length + 1) cq) := hc4.same (by rw [Below.heap_setCell _ _ _ gf hgf', Below.heap_setCell _ _ _ gf hgf', Below.heap_setCell _ _ _ gf hgf'])
      have hfin := hide (find_fin (X := (((W4.setCell ⟨g, xs.length * 3, none⟩ (.int .i64 k)).setCell ⟨g, xs.length * 3 + 1, none⟩ (.int .i64 t)).setCell ⟨g, xs.length * 3 + 2, none⟩ (.slice a n cap))) (k := k) (t := t) (c := c) (n := n) (a' := a) (cap' := cap) (tok := tok) (l := l) (O := O) hB0 hgb hle (unhide h1) (unhide h4) hown (unhide hrd) hb2 hsl2 (unhide hg3) hat3 hlt3 hoX1 hoX2 hoX3 hoX4 hoX5 hoX6 hoX7)
      generalize (((W4.setCell ⟨g, xs.length * 3, none⟩ (.int .i64 k)).setCell ⟨g, xs.length * 3 + 1, none⟩ (.int .i64 t)).setCell ⟨g, xs.length * 3 + 2, none⟩ (.slice a n cap)) = X at *
      obtain ⟨x0, x1, x2⟩ := (hS.2.same (hoX5 gb hgg hgbf)).box
      have cst := (unhide hfin).1.tok.cell
      refine wpAnyD_done (by kernel_rfl) ?_ _
      clear hoX1 hoX2 hoX3 hoX4 hoX5 hoX6 hoX7
      go_wp2
      go_ret
      exact ⟨rfl, _, by show l ++ [(⟨k, t, c⟩ : Nd)] = l ++ [(⟨k, t, c⟩ : Nd)]; rfl, (unhide hfin).1, (unhide hfin).2⟩
  · rw [if_pos (by kernel_rfl)]
    replace hK := hide hK
    go_simp
    have hc4 := hS.1.set (.slice (some ⟨g, 0, none⟩) (xs.length + 1) cq)
    have hh4 : ∀ x, x ≠ gf → (W3.setCell ⟨gf, 0, none⟩ (.slice (some ⟨g, 0, none⟩) (xs.length + 1) cq)).heap[x]? = W3.heap[x]? := fun x hx => Below.heap_setCell _ _ _ x hx
    have hsz4 : (W3.setCell ⟨gf, 0, none⟩ (.slice (some ⟨g, 0, none⟩) (xs.length + 1) cq)).heap.size = W3.heap.size := by simp
    have hos4 : (W3.setCell ⟨gf, 0, none⟩ (.slice (some ⟨g, 0, none⟩) (xs.length + 1) cq)).os = W3.os := rfl
    have hta4 : (W3.setCell ⟨gf, 0, none⟩ (.slice (some ⟨g, 0, none⟩) (xs.length + 1) cq)).tape = W3.tape := rfl
    have hou4 : (W3.setCell ⟨gf, 0, none⟩ (.slice (some ⟨g, 0, none⟩) (xs.length + 1) cq)).output = W3.output := rfl
    have ho4 : OwnN (W3.setCell ⟨gf, 0, none⟩ (.slice (some ⟨g, 0, none⟩) (xs.length + 1) cq)) B (.slice (some ⟨g, 0, none⟩) (xs.length + 1) cq) (xs ++ [zeroN]) := rowN_kept (unhide ho3) (fun x hx => hh4 x (fun e => by
      have hx : g = x := by simpa [Value.ownBlock] using hx
      exact hgf (hx.trans e)))
    refine unhide hK _ _ (fun h => by cases h) ?_
    clear hK K w0 w1 w2 f0 f1 f2 fb cb
    generalize W3.setCell ⟨gf, 0, none⟩ (.slice (some ⟨g, 0, none⟩) (xs.length + 1) cq) = W4 at *
    obtain ⟨w0, w1, w2, wf⟩ := own_cells ho4 rfl
    have f0 := wf (xs.length * 3)
    have f1 := wf (xs.length * 3 + 1)
    have f2 := wf (xs.length * 3 + 2)
    simp only [zeroN] at w0 w1 w2
    clear wf
    try simp only [List.getElem_toArray, List.getElem_cons_succ, List.getElem_cons_zero, Act.put, List.setIfInBounds_toArray, List.set_cons_zero, List.set_cons_succ]
    refine wpAnyD_one (i := 5) rfl (by kernel_rfl) (fun K hK => ?_)
    rw [if_pos (by kernel_rfl)]
    refine oper_of_run (v := .pointer (some ⟨g, xs.length * 3, none⟩)) (w' := W4) (by clear hK w0 w1 w2 f0 f1 f2; go_simp) ?_
    refine hK _ _ (fun h => by cases h) ?_
    clear hK K
    try simp only [List.getElem_toArray, List.getElem_cons_succ, List.getElem_cons_zero, Act.put, List.setIfInBounds_toArray, List.set_cons_zero, List.set_cons_succ]
    refine wpAnyD_one (i := 6) rfl (by kernel_rfl) (fun K hK => ?_)
    rw [if_pos (by kernel_rfl)]
    replace hK := hide hK
    go_simp
    refine unhide hK _ _ (fun h => by cases h) ?_
    clear hK K w0 w1 w2 f0 f1 f2
    try simp only [List.getElem_toArray, List.getElem_cons_succ, List.getElem_cons_zero, Act.put, List.setIfInBounds_toArray, List.set_cons_zero, List.set_cons_succ]
    have hoX1 : (((W4.setCell ⟨g, xs.length * 3, none⟩ (.int .i64 k)).setCell ⟨g, xs.length * 3 + 1, none⟩ (.int .i64 t)).setCell ⟨g, xs.length * 3 + 2, none⟩ (.slice a n cap)).os = W3.os := hos4
    have hoX2 : (((W4.setCell ⟨g, xs.length * 3, none⟩ (.int .i64 k)).setCell ⟨g, xs.length * 3 + 1, none⟩ (.int .i64 t)).setCell ⟨g, xs.length * 3 + 2, none⟩ (.slice a n cap)).tape = W3.tape := hta4
    have hoX3 : (((W4.setCell ⟨g, xs.length * 3, none⟩ (.int .i64 k)).setCell ⟨g, xs.length * 3 + 1, none⟩ (.int .i64 t)).setCell ⟨g, xs.length * 3 + 2, none⟩ (.slice a n cap)).output = W3.output := hou4
    have hoX4 : (((W4.setCell ⟨g, xs.length * 3, none⟩ (.int .i64 k)).setCell ⟨g, xs.length * 3 + 1, none⟩ (.int .i64 t)).setCell ⟨g, xs.length * 3 + 2, none⟩ (.slice a n cap)).heap.size = W3.heap.size := by simp; exact hsz4
    have hoX5 : ∀ x, x ≠ g → x ≠ gf → (((W4.setCell ⟨g, xs.length * 3, none⟩ (.int .i64 k)).setCell ⟨g, xs.length * 3 + 1, none⟩ (.int .i64 t)).setCell ⟨g, xs.length * 3 + 2, none⟩ (.slice a n cap)).heap[x]? = W3.heap[x]? := fun x hx hx2 => by rw [Below.heap_setCell _ _ _ x hx, Below.heap_setCell _ _ _ x hx, Below.heap_setCell _ _ _ x hx]; exact hh4 x hx2
    have hoX6 := own_put ho4 rfl ⟨k, t, a, n, cap⟩
    dsimp only at hoX6
    have hoX7 : Cell1 (((W4.setCell ⟨g, xs.length * 3, none⟩ (.int .i64 k)).setCell ⟨g, xs.length * 3 + 1, none⟩ (.int .i64 t)).setCell ⟨g, xs.length * 3 + 2, none⟩ (.slice a n cap)) gf 24 (.slice (some ⟨g, 0, none⟩) (xs.length + 1) cq) := hc4.same (by rw [Below.heap_setCell _ _ _ gf hgf', Below.heap_setCell _ _ _ gf hgf', Below.heap_setCell _ _ _ gf hgf'])
    have hfin := hide (find_fin (X := (((W4.setCell ⟨g, xs.length * 3, none⟩ (.int .i64 k)).setCell ⟨g, xs.length * 3 + 1, none⟩ (.int .i64 t)).setCell ⟨g, xs.length * 3 + 2, none⟩ (.slice a n cap))) (k := k) (t := t) (c := c) (n := n) (a' := a) (cap' := cap) (tok := tok) (l := l) (O := O) hB0 hgb hle (unhide h1) (unhide h4) hown (unhide hrd) hb2 hsl2 (unhide hg3) hat3 hlt3 hoX1 hoX2 hoX3 hoX4 hoX5 hoX6 hoX7)
    generalize (((W4.setCell ⟨g, xs.length * 3, none⟩ (.int .i64 k)).setCell ⟨g, xs.length * 3 + 1, none⟩ (.int .i64 t)).setCell ⟨g, xs.length * 3 + 2, none⟩ (.slice a n cap)) = X at *
    obtain ⟨x0, x1, x2⟩ := (hS.2.same (hoX5 gb hgg hgbf)).box
    have cst := (unhide hfin).1.tok.cell
    refine wpAnyD_done (by kernel_rfl) ?_ _
    clear hoX1 hoX2 hoX3 hoX4 hoX5 hoX6 hoX7
    go_wp2
    go_ret
    exact ⟨rfl, _, by show l ++ [(⟨k, t, c⟩ : Nd)] = l ++ [(⟨k, t, c⟩ : Nd)]; rfl, (unhide hfin).1, (unhide hfin).2⟩
/-- The blocks that the function writes: not the number's. -/
def AllC (gt gf : Nat) (s : FS) (g : Nat) : Prop := FindC gt gf s g ∧ g ≠ gt
theorem walkAll_any (gt gf B : Nat) (tok : Int) (W0 : World) (hB0 : gt < W0.heap.size ∧ W0.heap.size ≤ gf ∧ gf < B) (v : Value) (o : Nat → Prop) (w : World) (k t : Int) (a : Option Addr) (n cap : Nat) (c : F)
    (hw : Below W0.heap.size W0 w) (h : FindI W0.heap.size gt gf B tok ⟨v, [], o⟩ w) (hc : Sl W0 a n cap c) (hN : c.size ≤ 1000000) :
    Calls Tryd.prog 16 #[.agg #[.int .i64 k, .int .i64 t, .slice a n cap], .func (.func 17) #[] #[.pointer (some ⟨gf, 0, none⟩), .pointer (some ⟨gt, 0, none⟩)]] w fun e w' => e = .returned (.tuple #[]) ∧
      ∃ s', s'.l = (visN (fun k => k != tok) ⟨k, t, c⟩).map (·.1) ∧ FindI W0.heap.size gt gf B tok s' w' ∧ Moves (AllC gt gf ⟨v, [], o⟩) (AllC gt gf s') w w' := by
  refine (walkA_any (.pointer (some ⟨gf, 0, none⟩)) (.pointer (some ⟨gt, 0, none⟩)) (fun k => k != tok) AllR (FindI W0.heap.size gt gf B tok) (AllC gt gf) W0 ⟨v, [], o⟩
    (fun s w w' h hs hx => find_hI s w w' h hs (fun g hg => by
      by_cases e : g = gt
      · exact hx g (.inl (by omega))
      · exact hx g (hg.elim .inl (fun hc => .inr ⟨hc, e⟩))))
    (fun s w g h hg => by
      obtain ⟨hc, e⟩ := hg
      have := h.le
      rcases hc with hc | rfl | hc | hc
      · exact absurd hc e
      · omega
      · obtain ⟨xs, h5, _⟩ := h.row
        have := World.ownsRow.lt h5 g hc
        omega
      · have := h.own g hc
        omega)
    (fun s W k t a n cap c d hI _ hB hN hc0 hd => (all1_any W0.heap.size gt gf B tok W0 rfl ⟨trivial, hB0.2.1, by omega, hB0.2.2, by omega⟩ s W k t a n cap c d hI hc0 hB (by
      obtain ⟨m, hm1, hm2⟩ := hd
      have := all_len hm1 rfl
      omega)).mono (fun e W' ⟨he, s', hR, hI', hM⟩ => ⟨he, s', hR, hI', hM.os, hM.tape, hM.output, hM.size, fun x hx hcx => by
        by_cases e : x = gt
        · subst e
          exact hI'.tok.trans hI.tok.symm
        · exact hM.block x hx (fun hc => hcx ⟨hc, e⟩), fun x hx => (hM.grows x hx.1).imp (fun h => ⟨h, hx.2⟩) id⟩))
    k t a n cap c w hw h hc hN).mono ?_
  rintro e w' ⟨rfl, s', hrs, hI, hM⟩
  refine ⟨rfl, s', ?_, hI, hM⟩
  have := all_rs _ _ _ hrs
  simpa using this
end Go.Proofs.YthnapcdanccohaaDoor

/-
  The law NodeAll.
-/
import Derived.Test.YthnapcdanccohaaDoorNdKinds
import Derived.Test.YthnapcdanccohaaDoorNdLaid
import Derived.Test.YthnapcdanccohaaDoorNdAll1
import Derived.Test.YthnapcdanccohaaDoorNdLw
import Derived.Test.YthnapcdanccohaaDoorNdBegun
import Derived.Test.YthnapcdanccohaaDoorNdCnt
namespace Go.Proofs.YthnapcdanccohaaDoor
open Go.RowKit Go.Lib Go.Sort
set_option linter.unusedSimpArgs false
set_option linter.unusedVariables false
theorem cf_rEqN (us : Array Value) (W : World) : Sem.run Tryd.prog (callFunc 9 us) W = .ok (.enter 9 us) W := by kernel_rfl
theorem cf_nlCount (us : Array Value) (W : World) : Sem.run Tryd.prog (callFunc 11 us) W = .ok (.enter 11 us) W := by kernel_rfl
theorem cf_nlDeep (us : Array Value) (W : World) : Sem.run Tryd.prog (callFunc 13 us) W = .ok (.enter 13 us) W := by kernel_rfl
theorem cf_rNameN (us : Array Value) (W : World) : Sem.run Tryd.prog (callFunc 15 us) W = .ok (.enter 15 us) W := by kernel_rfl
set_option maxHeartbeats 4000000 in
set_option maxRecDepth 100000 in
theorem nodeAll_shell (a0 : Option Addr) (len0 cap0 : Nat) (z0 : List Int) (a1 : Option Addr) (len1 cap1 : Nat) (z1 : List Int) (a2 : Int) (a3 : Int) (a4 : Int) (w : World) (w0 : IsRow .i64 w a0 len0 cap0 z0) (w1 : IsRow .i64 w a1 len1 cap1 z1) (w2 : (Lit.int .i64 a2).wf = true) (w3 : (Lit.int .i64 a3).wf = true) (w4 : (Lit.int .i64 a4).wf = true) (hT : Tab w) :
    Calls Tryd.prog 3 #[.slice a0 len0 cap0, .slice a1 len1 cap1, .int .i64 a2, .int .i64 a3, .int .i64 a4] w fun e w' => e = .returned (.bool true) ∧ Below w.heap.size w w' := by
  have HB := hide (fun W (h : Tab W) => nlBegun_any W h)
  have H0 := hide (fun W (hW : Below w.heap.size w W) => row_tree w0 W hW)
  have H1 := hide (fun W (hW : Below w.heap.size w W) => row_tree w1 W hW)
  have z4 := bounds_i64 w4
  have hs0 := treeN_size (z0.take len0)
  have hs1 := treeN_size (z1.take len1)
  have hVA := vlN_all (z0.take len0)
  generalize treeN (z0.take len0) = X at *
  generalize treeN (z1.take len1) = Y at *
  obtain ⟨xk, xt, xc⟩ := X
  obtain ⟨yk, yt, yc⟩ := Y
  dsimp only at hs0 hs1 H0 H1
  replace hVA := hide hVA
  have hbs := below_alloc w (.cells #[.int .i64 a2] 3 (0, 0))
  have hst := cell1_new w 3 (.int .i64 a2)
  obtain ⟨gs, hgs⟩ : ∃ gs, w.heap.size = gs := ⟨_, rfl⟩
  rw [hgs] at hst
  clear w0 w1 w2 w3 w4
  replace hbs := hide hbs
  replace hst := hide hst
  replace hT := hide hT
  go_enter Tryd.func3, Tryd.ntmps3
  go_wp2_with fail
  refine (unhide HB _ ((unhide hT).of (unhide hbs))).mono ?_
  rintro e W0 ⟨rfl, hb⟩
  have hbW0 : Below w.heap.size w W0 := (unhide hbs).trans (hb.mono (by simp))
  have hstW0 := (unhide hst).same (hb.block _ (by simp; omega))
  have hTW0 := (unhide hT).of hbW0
  clear HB hb hbs hst hT
  replace hstW0 := hide hstW0
  replace hTW0 := hide hTW0
  replace hbW0 := hide hbW0
  go_wp2_with fail
  refine (unhide H0 _ (unhide hbW0)).mono ?_
  rintro e W1 ⟨a5, n5, c5, rfl, hX1, hb⟩
  have hbW1 := below3 (unhide hbW0) hb
  have hstW1 := (unhide hstW0).same (hb.block _ (unhide hstW0).lt)
  have hTW1 := (unhide hTW0).of hb
  clear H0 hb hstW0 hTW0 hbW0
  replace hstW1 := hide hstW1
  replace hTW1 := hide hTW1
  replace hbW1 := hide hbW1
  replace hX1 := hide hX1.any
  go_wp2_with fail
  refine (unhide H1 _ (unhide hbW1)).mono ?_
  rintro e W2 ⟨a6, n6, c6, rfl, hY2, hb⟩
  have hbW2 := below3 (unhide hbW1) hb
  have hstW2 := (unhide hstW1).same (hb.block _ (unhide hstW1).lt)
  have hTW2 := (unhide hTW1).of hb
  have hX2 := (unhide hX1).below hb
  replace hY2 := hY2.any
  clear H1 hb hstW1 hTW1 hbW1 hX1
  have n0 := nblk_new W2 0 0 none 0 0
  have n1 := nblk_new (W2.alloc (.cells #[.int .i64 0, .int .i64 0, .slice none 0 0] 26 (0, 0))) 0 0 none 0 0
  replace hbW2 := hide hbW2
  replace hstW2 := hide hstW2
  replace hTW2 := hide hTW2
  replace hX2 := hide hX2
  replace hY2 := hide hY2
  replace n0 := hide n0
  replace n1 := hide n1
  go_upto_region 5 with fail
  have bx : BoxN ((W2.alloc (.cells #[.int .i64 xk, .int .i64 xt, .slice a5 n5 c5] 26 (0, 0))).alloc (.cells #[.int .i64 yk, .int .i64 yt, .slice a6 n6 c6] 26 (0, 0))) W2.heap.size xk xt a5 n5 c5 := (boxN_new W2 xk xt a5 n5 c5).below (below_alloc _ _) (by simp)
  have by2 : BoxN ((W2.alloc (.cells #[.int .i64 xk, .int .i64 xt, .slice a5 n5 c5] 26 (0, 0))).alloc (.cells #[.int .i64 yk, .int .i64 yt, .slice a6 n6 c6] 26 (0, 0))) (W2.heap.size + 1) yk yt a6 n6 c6 := by
    have := boxN_new (W2.alloc (.cells #[.int .i64 xk, .int .i64 xt, .slice a5 n5 c5] 26 (0, 0))) yk yt a6 n6 c6
    simpa using this
  have hb : Below W2.heap.size W2 ((W2.alloc (.cells #[.int .i64 xk, .int .i64 xt, .slice a5 n5 c5] 26 (0, 0))).alloc (.cells #[.int .i64 yk, .int .i64 yt, .slice a6 n6 c6] 26 (0, 0))) := below3 (below_alloc _ _) (below_alloc _ _)
  have hX := (unhide hX2).below hb
  have hY := (unhide hY2).below hb
  have hT := (unhide hTW2).of hb
  have hst := (unhide hstW2).same (hb.block _ (unhide hstW2).lt)
  have hbw := below3 (unhide hbW2) hb
  have lgn : W2.heap.size < ((W2.alloc (.cells #[.int .i64 xk, .int .i64 xt, .slice a5 n5 c5] 26 (0, 0))).alloc (.cells #[.int .i64 yk, .int .i64 yt, .slice a6 n6 c6] 26 (0, 0))).heap.size := by simp; omega
  have lgm : W2.heap.size + 1 < ((W2.alloc (.cells #[.int .i64 xk, .int .i64 xt, .slice a5 n5 c5] 26 (0, 0))).alloc (.cells #[.int .i64 yk, .int .i64 yt, .slice a6 n6 c6] 26 (0, 0))).heap.size := by simp
  have hWn : w.heap.size ≤ W2.heap.size := (unhide hbW2).size
  clear hX2 hY2 hTW2 hstW2 hbW2 hb n0 n1
  generalize ((W2.alloc (.cells #[.int .i64 xk, .int .i64 xt, .slice a5 n5 c5] 26 (0, 0))).alloc (.cells #[.int .i64 yk, .int .i64 yt, .slice a6 n6 c6] 26 (0, 0))) = W3 at *
  have hnm : W2.heap.size ≠ W2.heap.size + 1 := by omega
  obtain ⟨gm, hgm⟩ : ∃ gm, W2.heap.size + 1 = gm := ⟨_, rfl⟩
  rw [hgm] at by2 lgm hnm
  simp only [hgm]
  generalize W2.heap.size = gn at *
  obtain ⟨E, hE⟩ : ∃ E, decide ((⟨xk, xt, xc⟩ : Nd) = ⟨yk, yt, yc⟩) = E := ⟨_, rfl⟩
  obtain ⟨C, hC⟩ : ∃ C, (((⟨xk, xt, xc⟩ : Nd).size : Nat) : Int) = C := ⟨_, rfl⟩
  have hC2 : ((xc.size + 1 : Nat) : Int) = C := hC
  obtain ⟨D, hD⟩ : ∃ D, (((⟨xk, xt, xc⟩ : Nd).deep : Nat) : Int) = D := ⟨_, rfl⟩
  have hD2 : ((xc.deep + 1 : Nat) : Int) = D := hD
  obtain ⟨nm, hN⟩ : ∃ nm, nameK a4 = nm := ⟨_, rfl⟩
  replace hst := hide hst
  replace hbw := hide hbw
  replace hE := hide hE
  replace hC := hide hC
  replace hC2 := hide hC2
  replace hD := hide hD
  replace hD2 := hide hD2
  replace hN := hide hN
  have hS : RowKit.Below W3.heap.size W3 W3.drew := (RowKit.Below.refl _ _).drew
  refine wp_region_held_drew (S := fun w' => RowKit.Below W3.heap.size W3 w') (by kernel_rfl) hS (fun _ => ?_)
  generalize World.drew W3 = WD at hS ⊢
  refine wpAnyH_take (i := 0) (v := .agg #[.int .i64 xk, .int .i64 xt, .slice a5 n5 c5]) rfl (by kernel_rfl) (by kernel_rfl) (by kernel_rfl) (fun _ _ _ h => h) (Or.inl ⟨by kernel_rfl, ?_⟩) hS ?_
  · intro w hSw
    have e0 := (hSw.cell (p := ⟨gn, 0, none⟩) lgn).trans bx.1
    have e1 := (hSw.cell (p := ⟨gn, 1, none⟩) lgn).trans bx.2.1
    have e2 := (hSw.cell (p := ⟨gn, 2, none⟩) lgn).trans bx.2.2
    clear bx by2
    go_simp
  try simp only [List.getElem_toArray, List.getElem_cons_succ, List.getElem_cons_zero, Act.put, List.setIfInBounds_toArray, List.set_cons_zero, List.set_cons_succ]
  refine wpAnyH_take (i := 1) (v := .agg #[.int .i64 yk, .int .i64 yt, .slice a6 n6 c6]) rfl (by kernel_rfl) (by kernel_rfl) (by kernel_rfl) (fun _ _ _ h => h) (Or.inl ⟨by kernel_rfl, ?_⟩) hS ?_
  · intro w hSw
    have e0 := (hSw.cell (p := ⟨gm, 0, none⟩) lgm).trans by2.1
    have e1 := (hSw.cell (p := ⟨gm, 1, none⟩) lgm).trans by2.2.1
    have e2 := (hSw.cell (p := ⟨gm, 2, none⟩) lgm).trans by2.2.2
    clear bx by2
    go_simp
  try simp only [List.getElem_toArray, List.getElem_cons_succ, List.getElem_cons_zero, Act.put, List.setIfInBounds_toArray, List.set_cons_zero, List.set_cons_succ]
  refine wpAnyH_take (i := 3) (v := .agg #[.int .i64 xk, .int .i64 xt, .slice a5 n5 c5]) rfl (by kernel_rfl) (by kernel_rfl) (by kernel_rfl) (fun _ _ _ h => h) (Or.inl ⟨by kernel_rfl, ?_⟩) hS ?_
  · intro w hSw
    have e0 := (hSw.cell (p := ⟨gn, 0, none⟩) lgn).trans bx.1
    have e1 := (hSw.cell (p := ⟨gn, 1, none⟩) lgn).trans bx.2.1
    have e2 := (hSw.cell (p := ⟨gn, 2, none⟩) lgn).trans bx.2.2
    clear bx by2
    go_simp
  try simp only [List.getElem_toArray, List.getElem_cons_succ, List.getElem_cons_zero, Act.put, List.setIfInBounds_toArray, List.set_cons_zero, List.set_cons_succ]
  refine wpAnyH_take (i := 4) (v := .agg #[.int .i64 yk, .int .i64 yt, .slice a6 n6 c6]) rfl (by kernel_rfl) (by kernel_rfl) (by kernel_rfl) (fun _ _ _ h => h) (Or.inl ⟨by kernel_rfl, ?_⟩) hS ?_
  · intro w hSw
    have e0 := (hSw.cell (p := ⟨gm, 0, none⟩) lgm).trans by2.1
    have e1 := (hSw.cell (p := ⟨gm, 1, none⟩) lgm).trans by2.2.1
    have e2 := (hSw.cell (p := ⟨gm, 2, none⟩) lgm).trans by2.2.2
    clear bx by2
    go_simp
  try simp only [List.getElem_toArray, List.getElem_cons_succ, List.getElem_cons_zero, Act.put, List.setIfInBounds_toArray, List.set_cons_zero, List.set_cons_succ]
  refine wpAnyH_ready (rs := [2]) (by kernel_rfl) (by decide) ?_
  refine AllReadyH.cons rfl (fun K' hK => ?_) AllReadyH.nil
  rw [if_pos (by kernel_rfl)]
  refine oper_call (run_call2 cf_ndEq) ((ndEq_any xk xt yk yt a5 a6 n5 c5 n6 c6 xc yc WD (hX.below hS) (hY.below hS) (by omega)).mono ?_)
  rintro e WX ⟨rfl, hbX⟩
  rw [unhide hE]
  have hS' : RowKit.Below W3.heap.size W3 WX := hS.trans (hbX.mono hS.size)
  refine ⟨_, rfl, hK.out _ _ hS' (fun _ => ?_)⟩
  clear hK K' hS
  have hS := hS'
  clear hS'
  generalize WX = WD at *
  try simp only [List.getElem_toArray, List.getElem_cons_succ, List.getElem_cons_zero, Act.put, List.setIfInBounds_toArray, List.set_cons_zero, List.set_cons_succ]
  refine wpAnyH_ready (rs := [5]) (by kernel_rfl) (by decide) ?_
  refine AllReadyH.cons rfl (fun K' hK => ?_) AllReadyH.nil
  rw [if_pos (by kernel_rfl)]
  refine oper_call (run_call2 cf_rEqN) ((rEqN_any 1000 xk xt yk yt a5 a6 n5 c5 n6 c6 xc yc WD (by omega) (by omega) (hX.below hS) (hY.below hS)).mono ?_)
  rintro e WX ⟨rfl, hbX⟩
  rw [unhide hE]
  have hS' : RowKit.Below W3.heap.size W3 WX := hS.trans (hbX.mono hS.size)
  refine ⟨_, rfl, hK.out _ _ hS' (fun _ => ?_)⟩
  clear hK K' hS
  have hS := hS'
  clear hS'
  generalize WX = WD at *
  try simp only [List.getElem_toArray, List.getElem_cons_succ, List.getElem_cons_zero, Act.put, List.setIfInBounds_toArray, List.set_cons_zero, List.set_cons_succ]
  refine wpAnyH_take (i := 6) (v := .bool false) rfl (by kernel_rfl) (by kernel_rfl) (by kernel_rfl) (fun _ _ _ h => h) (Or.inl ⟨by kernel_rfl, ?_⟩) hS ?_
  · intro w hSw
    go_simp
  try simp only [List.getElem_toArray, List.getElem_cons_succ, List.getElem_cons_zero, Act.put, List.setIfInBounds_toArray, List.set_cons_zero, List.set_cons_succ]
  refine wpAnyH_take (i := 7) (v := .bool false) rfl (by kernel_rfl) (by kernel_rfl) (by kernel_rfl) (fun _ _ _ h => h) (Or.inl ⟨by kernel_rfl, ?_⟩) hS ?_
  · intro w hSw
    go_simp
  try simp only [List.getElem_toArray, List.getElem_cons_succ, List.getElem_cons_zero, Act.put, List.setIfInBounds_toArray, List.set_cons_zero, List.set_cons_succ]
  refine wpAnyH_take (i := 8) (v := .agg #[.int .i64 xk, .int .i64 xt, .slice a5 n5 c5]) rfl (by kernel_rfl) (by kernel_rfl) (by kernel_rfl) (fun _ _ _ h => h) (Or.inl ⟨by kernel_rfl, ?_⟩) hS ?_
  · intro w hSw
    have e0 := (hSw.cell (p := ⟨gn, 0, none⟩) lgn).trans bx.1
    have e1 := (hSw.cell (p := ⟨gn, 1, none⟩) lgn).trans bx.2.1
    have e2 := (hSw.cell (p := ⟨gn, 2, none⟩) lgn).trans bx.2.2
    clear bx by2
    go_simp
  try simp only [List.getElem_toArray, List.getElem_cons_succ, List.getElem_cons_zero, Act.put, List.setIfInBounds_toArray, List.set_cons_zero, List.set_cons_succ]
  refine wpAnyH_take (i := 10) (v := .agg #[.int .i64 xk, .int .i64 xt, .slice a5 n5 c5]) rfl (by kernel_rfl) (by kernel_rfl) (by kernel_rfl) (fun _ _ _ h => h) (Or.inl ⟨by kernel_rfl, ?_⟩) hS ?_
  · intro w hSw
    have e0 := (hSw.cell (p := ⟨gn, 0, none⟩) lgn).trans bx.1
    have e1 := (hSw.cell (p := ⟨gn, 1, none⟩) lgn).trans bx.2.1
    have e2 := (hSw.cell (p := ⟨gn, 2, none⟩) lgn).trans bx.2.2
    clear bx by2
    go_simp
  try simp only [List.getElem_toArray, List.getElem_cons_succ, List.getElem_cons_zero, Act.put, List.setIfInBounds_toArray, List.set_cons_zero, List.set_cons_succ]
  refine wpAnyH_ready (rs := [9]) (by kernel_rfl) (by decide) ?_
  refine AllReadyH.cons rfl (fun K' hK => ?_) AllReadyH.nil
  rw [if_pos (by kernel_rfl)]
  refine oper_call (run_call1 cf_ndCount) ((ndCount_any xk xt a5 n5 c5 xc WD (hX.below hS) (by omega)).mono ?_)
  rintro e WX ⟨rfl, hbX⟩
  rw [unhide hC]
  have hS' : RowKit.Below W3.heap.size W3 WX := hS.trans (hbX.mono hS.size)
  refine ⟨_, rfl, hK.out _ _ hS' (fun _ => ?_)⟩
  clear hK K' hS
  have hS := hS'
  clear hS'
  generalize WX = WD at *
  try simp only [List.getElem_toArray, List.getElem_cons_succ, List.getElem_cons_zero, Act.put, List.setIfInBounds_toArray, List.set_cons_zero, List.set_cons_succ]
  refine wpAnyH_ready (rs := [11]) (by kernel_rfl) (by decide) ?_
  refine AllReadyH.cons rfl (fun K' hK => ?_) AllReadyH.nil
  rw [if_pos (by kernel_rfl)]
  refine oper_call (run_call1 cf_nlCount) ((nlCount_any 1000 xk xt a5 n5 c5 xc WD (by omega) (by omega) (hX.below hS)).mono ?_)
  rintro e WX ⟨rfl, hbX⟩
  rw [unhide hC2]
  have hS' : RowKit.Below W3.heap.size W3 WX := hS.trans (hbX.mono hS.size)
  refine ⟨_, rfl, hK.out _ _ hS' (fun _ => ?_)⟩
  clear hK K' hS
  have hS := hS'
  clear hS'
  generalize WX = WD at *
  try simp only [List.getElem_toArray, List.getElem_cons_succ, List.getElem_cons_zero, Act.put, List.setIfInBounds_toArray, List.set_cons_zero, List.set_cons_succ]
  refine wpAnyH_take (i := 12) (v := .bool false) rfl (by kernel_rfl) (by kernel_rfl) (by kernel_rfl) (fun _ _ _ h => h) (Or.inl ⟨by kernel_rfl, ?_⟩) hS ?_
  · intro w hSw
    go_simp
  try simp only [List.getElem_toArray, List.getElem_cons_succ, List.getElem_cons_zero, Act.put, List.setIfInBounds_toArray, List.set_cons_zero, List.set_cons_succ]
  refine wpAnyH_take (i := 13) (v := .bool false) rfl (by kernel_rfl) (by kernel_rfl) (by kernel_rfl) (fun _ _ _ h => h) (Or.inl ⟨by kernel_rfl, ?_⟩) hS ?_
  · intro w hSw
    go_simp
  try simp only [List.getElem_toArray, List.getElem_cons_succ, List.getElem_cons_zero, Act.put, List.setIfInBounds_toArray, List.set_cons_zero, List.set_cons_succ]
  refine wpAnyH_take (i := 14) (v := .bool false) rfl (by kernel_rfl) (by kernel_rfl) (by kernel_rfl) (fun _ _ _ h => h) (Or.inl ⟨by kernel_rfl, ?_⟩) hS ?_
  · intro w hSw
    go_simp
  try simp only [List.getElem_toArray, List.getElem_cons_succ, List.getElem_cons_zero, Act.put, List.setIfInBounds_toArray, List.set_cons_zero, List.set_cons_succ]
  refine wpAnyH_take (i := 15) (v := .agg #[.int .i64 xk, .int .i64 xt, .slice a5 n5 c5]) rfl (by kernel_rfl) (by kernel_rfl) (by kernel_rfl) (fun _ _ _ h => h) (Or.inl ⟨by kernel_rfl, ?_⟩) hS ?_
  · intro w hSw
    have e0 := (hSw.cell (p := ⟨gn, 0, none⟩) lgn).trans bx.1
    have e1 := (hSw.cell (p := ⟨gn, 1, none⟩) lgn).trans bx.2.1
    have e2 := (hSw.cell (p := ⟨gn, 2, none⟩) lgn).trans bx.2.2
    clear bx by2
    go_simp
  try simp only [List.getElem_toArray, List.getElem_cons_succ, List.getElem_cons_zero, Act.put, List.setIfInBounds_toArray, List.set_cons_zero, List.set_cons_succ]
  refine wpAnyH_take (i := 17) (v := .agg #[.int .i64 xk, .int .i64 xt, .slice a5 n5 c5]) rfl (by kernel_rfl) (by kernel_rfl) (by kernel_rfl) (fun _ _ _ h => h) (Or.inl ⟨by kernel_rfl, ?_⟩) hS ?_
  · intro w hSw
    have e0 := (hSw.cell (p := ⟨gn, 0, none⟩) lgn).trans bx.1
    have e1 := (hSw.cell (p := ⟨gn, 1, none⟩) lgn).trans bx.2.1
    have e2 := (hSw.cell (p := ⟨gn, 2, none⟩) lgn).trans bx.2.2
    clear bx by2
    go_simp
  try simp only [List.getElem_toArray, List.getElem_cons_succ, List.getElem_cons_zero, Act.put, List.setIfInBounds_toArray, List.set_cons_zero, List.set_cons_succ]
  refine wpAnyH_ready (rs := [16]) (by kernel_rfl) (by decide) ?_
  refine AllReadyH.cons rfl (fun K' hK => ?_) AllReadyH.nil
  rw [if_pos (by kernel_rfl)]
  refine oper_call (run_call1 cf_ndDeep) ((ndDeep_any xk xt a5 n5 c5 xc WD (hX.below hS) (by omega)).mono ?_)
  rintro e WX ⟨rfl, hbX⟩
  rw [unhide hD]
  have hS' : RowKit.Below W3.heap.size W3 WX := hS.trans (hbX.mono hS.size)
  refine ⟨_, rfl, hK.out _ _ hS' (fun _ => ?_)⟩
  clear hK K' hS
  have hS := hS'
  clear hS'
  generalize WX = WD at *
  try simp only [List.getElem_toArray, List.getElem_cons_succ, List.getElem_cons_zero, Act.put, List.setIfInBounds_toArray, List.set_cons_zero, List.set_cons_succ]
  refine wpAnyH_ready (rs := [18]) (by kernel_rfl) (by decide) ?_
  refine AllReadyH.cons rfl (fun K' hK => ?_) AllReadyH.nil
  rw [if_pos (by kernel_rfl)]
  refine oper_call (run_call1 cf_nlDeep) ((nlDeep_any 1000 xk xt a5 n5 c5 xc WD (by omega) (by omega) (hX.below hS)).mono ?_)
  rintro e WX ⟨rfl, hbX⟩
  rw [unhide hD2]
  have hS' : RowKit.Below W3.heap.size W3 WX := hS.trans (hbX.mono hS.size)
  refine ⟨_, rfl, hK.out _ _ hS' (fun _ => ?_)⟩
  clear hK K' hS
  have hS := hS'
  clear hS'
  generalize WX = WD at *
  try simp only [List.getElem_toArray, List.getElem_cons_succ, List.getElem_cons_zero, Act.put, List.setIfInBounds_toArray, List.set_cons_zero, List.set_cons_succ]
  refine wpAnyH_take (i := 19) (v := .bool false) rfl (by kernel_rfl) (by kernel_rfl) (by kernel_rfl) (fun _ _ _ h => h) (Or.inl ⟨by kernel_rfl, ?_⟩) hS ?_
  · intro w hSw
    go_simp
  try simp only [List.getElem_toArray, List.getElem_cons_succ, List.getElem_cons_zero, Act.put, List.setIfInBounds_toArray, List.set_cons_zero, List.set_cons_succ]
  refine wpAnyH_take (i := 20) (v := .bool false) rfl (by kernel_rfl) (by kernel_rfl) (by kernel_rfl) (fun _ _ _ h => h) (Or.inl ⟨by kernel_rfl, ?_⟩) hS ?_
  · intro w hSw
    go_simp
  try simp only [List.getElem_toArray, List.getElem_cons_succ, List.getElem_cons_zero, Act.put, List.setIfInBounds_toArray, List.set_cons_zero, List.set_cons_succ]
  refine wpAnyH_take (i := 21) (v := .bool false) rfl (by kernel_rfl) (by kernel_rfl) (by kernel_rfl) (fun _ _ _ h => h) (Or.inl ⟨by kernel_rfl, ?_⟩) hS ?_
  · intro w hSw
    go_simp
  try simp only [List.getElem_toArray, List.getElem_cons_succ, List.getElem_cons_zero, Act.put, List.setIfInBounds_toArray, List.set_cons_zero, List.set_cons_succ]
  refine wpAnyH_take (i := 22) (v := .int .i64 a4) rfl (by kernel_rfl) (by kernel_rfl) (by kernel_rfl) (fun _ _ _ h => h) (Or.inl ⟨by kernel_rfl, ?_⟩) hS ?_
  · intro w hSw
    go_simp
  try simp only [List.getElem_toArray, List.getElem_cons_succ, List.getElem_cons_zero, Act.put, List.setIfInBounds_toArray, List.set_cons_zero, List.set_cons_succ]
  refine wpAnyH_take (i := 24) (v := .int .i64 a4) rfl (by kernel_rfl) (by kernel_rfl) (by kernel_rfl) (fun _ _ _ h => h) (Or.inl ⟨by kernel_rfl, ?_⟩) hS ?_
  · intro w hSw
    go_simp
  try simp only [List.getElem_toArray, List.getElem_cons_succ, List.getElem_cons_zero, Act.put, List.setIfInBounds_toArray, List.set_cons_zero, List.set_cons_succ]
  refine wpAnyH_ready (rs := [23]) (by kernel_rfl) (by decide) ?_
  refine AllReadyH.cons rfl (fun K' hK => ?_) AllReadyH.nil
  rw [if_pos (by kernel_rfl)]
  refine oper_call (run_call1 cf_ndName) ((ndName_any a4 WD (hT.of hS)).mono ?_)
  rintro e WX ⟨rfl, rfl⟩
  rw [unhide hN]
  have hS' := hS
  refine ⟨_, rfl, hK.out _ _ hS' (fun _ => ?_)⟩
  clear hK K' hS
  have hS := hS'
  clear hS'
  generalize WX = WD at *
  try simp only [List.getElem_toArray, List.getElem_cons_succ, List.getElem_cons_zero, Act.put, List.setIfInBounds_toArray, List.set_cons_zero, List.set_cons_succ]
  refine wpAnyH_ready (rs := [25]) (by kernel_rfl) (by decide) ?_
  refine AllReadyH.cons rfl (fun K' hK => ?_) AllReadyH.nil
  rw [if_pos (by kernel_rfl)]
  refine oper_call (run_call1 cf_rNameN) ((rNameN_any a4 WD z4).mono ?_)
  rintro e WX ⟨rfl, hbX⟩
  rw [unhide hN]
  have hS' : RowKit.Below W3.heap.size W3 WX := hS.trans (hbX.mono hS.size)
  refine ⟨_, rfl, hK.out _ _ hS' (fun _ => ?_)⟩
  clear hK K' hS
  have hS := hS'
  clear hS'
  generalize WX = WD at *
  try simp only [List.getElem_toArray, List.getElem_cons_succ, List.getElem_cons_zero, Act.put, List.setIfInBounds_toArray, List.set_cons_zero, List.set_cons_succ]
  refine wpAnyH_take (i := 26) (v := .bool false) rfl (by kernel_rfl) (by kernel_rfl) (by kernel_rfl) (fun _ _ _ h => h) (Or.inl ⟨by kernel_rfl, ?_⟩) hS ?_
  · intro w hSw
    go_simp
  try simp only [List.getElem_toArray, List.getElem_cons_succ, List.getElem_cons_zero, Act.put, List.setIfInBounds_toArray, List.set_cons_zero, List.set_cons_succ]
  refine wpAnyH_ready (rs := [27]) (by kernel_rfl) (by decide) ?_
  refine AllReadyH.cons rfl (fun K' hK => ?_) AllReadyH.nil
  rw [if_pos (by kernel_rfl)]
  refine oper_of_run (v := .bool false) (w' := WD) (rfl) ?_
  refine hK.out _ _ hS (fun _ => ?_)
  clear hK K'
  try simp only [List.getElem_toArray, List.getElem_cons_succ, List.getElem_cons_zero, Act.put, List.setIfInBounds_toArray, List.set_cons_zero, List.set_cons_succ]
  refine wpAnyH_done (by kernel_rfl) ?_ _
  have hbw4 := (unhide hbw).trans (hS.mono (unhide hbw).size)
  have hX4 := hX.below hS
  have hst4 := (unhide hst).same (hS.block _ (unhide hst).lt)
  have bx4 := bx.below hS lgn
  have lgn4 : gn < WD.heap.size := Nat.lt_of_lt_of_le lgn hS.size
  clear hbw hX hY hst bx by2 hT hE hC hC2 hD hD2 hN hS lgn lgm hs1 z4
  have hbg := below_alloc WD (.cells #[.slice none 0 0] 24 (0, 0))
  have hgot := cell1_new WD 24 (.slice none 0 0)
  have bx5 := bx4.below hbg lgn4
  have hst5 := hst4.same (hbg.block _ hst4.lt)
  have lst := hst4.lt
  have hW5 := hide (walkAll_any gs WD.heap.size (WD.heap.size + 1) a2 WD ⟨lst, Nat.le_refl _, by omega⟩ (.slice none 0 0) (fun _ => False) _ xk xt a5 n5 c5 xc hbg ⟨hst5, hgot, by simp, fun _ h => h.elim, [], ownN_nil _ _, trivial⟩ hX4 (by omega))
  replace hbw4 := hide hbw4
  replace hX4 := hide hX4
  replace hst4 := hide hst4
  replace hst5 := hide hst5
  replace bx4 := hide bx4
  replace hbg := hide hbg
  replace hgot := hide hgot
  obtain ⟨y0, y1, y2⟩ := bx5
  have hmf : ∀ (fn : Fn) (first cap : Array Value) (w : World), (Instr.makeFunc fn first cap).run Tryd.prog w = .ok (.func fn first cap) w := fun _ _ _ _ => rfl
  go_upto_region 8 with fail
  go_wp2_with fail
  refine (unhide hW5).mono ?_
  rintro e W6 ⟨rfl, s', hL1, hI6, hM6⟩
  rw [visN_fst] at hL1
  have hb46 : Below WD.heap.size WD W6 := (unhide hbg).trans (hM6.below (fun g hg => by
    rcases hg.1 with h | h | h | h
    · exact absurd h hg.2
    · omega
    · cases h
    · exact h.elim) (by simp))
  have bx6 := (unhide bx4).below hb46 lgn4
  have hst6 := hI6.tok
  have hlt6 := hb46.size
  have hst6c := hst6.cell
  have hW6 := hide (nlWalk_any a2 WD W6.heap.size hlt6 1000 xk xt a5 n5 c5 xc W6 (.slice none 0 0) [] [] (by omega) (by omega) (unhide hX4) hb46 (Nat.le_refl _) (ownN_nil _ _) trivial (by simp; omega))
  obtain ⟨y0, y1, y2⟩ := bx6
  clear hW5 hgot hM6 hst5 hmf
  replace hI6 := hide hI6
  replace hst6 := hide hst6
  replace hb46 := hide hb46
  replace hL1 := hide hL1
  go_wp2_with fail
  refine (unhide hW6).mono ?_
  rintro e W7 ⟨v7, xs7, rfl, ho7, hr7, hM7⟩
  have hb67 : Below W6.heap.size W6 W7 := hM7.below (fun g hg => by cases hg) (Nat.le_refl _)
  have hb47 : Below WD.heap.size WD W7 := below3 (unhide hb46) hb67
  have hbw7 := below3 (unhide hbw4) hb47
  have bx7 := (unhide bx4).below hb47 lgn4
  have hX7 := (unhide hX4).below hb47
  have hlg6 : WD.heap.size < W6.heap.size := (unhide hI6).box.lt
  have hgot7 := (unhide hI6).box.same (hb67.block _ hlg6)
  obtain ⟨xs6, ho6, hr6⟩ := (unhide hI6).row
  obtain ⟨ag, cg, hvg, hsg, _⟩ := OwnN.sl (P := fun _ => True) ho6 (hr6.mono (fun _ _ => trivial)) (fun _ _ => trivial)
  obtain ⟨aw, cw, hvw, hsw, _⟩ := OwnN.sl (P := fun _ => True) ho7 (hr7.mono (fun _ _ => trivial)) (fun _ _ => trivial)
  rw [unhide hL1] at hsg
  rw [hvg] at hgot7
  replace hsg := hsg.below hb67
  have hlw : xs7.length = (vlN (fun k => k != a2) ⟨xk, xt, xc⟩).length := by rw [hr7.len, ofL_len, List.nil_append]
  have hlg : xs6.length = (vlN (fun k => k != a2) ⟨xk, xt, xc⟩).length := by rw [hr6.len, ofL_len, unhide hL1]
  rw [List.nil_append] at hsw
  rw [hlw] at hsw hvw
  rw [hlg] at hsg hgot7
  have hvl := vlN_len (fun k => k != a2) ⟨xk, xt, xc⟩
  dsimp only at hvl
  have hLsz := vlN_size (fun k => k != a2) ⟨xk, xt, xc⟩ hs0
  generalize vlN (fun k => k != a2) ⟨xk, xt, xc⟩ = L1 at *
  have hst7 := (unhide hst6).same (hb67.block _ (unhide hst6).lt)
  clear hst6 hst4 hI6 ho6 hr6 ho7 hr7 hM7 hW6 hbw4 hX4 bx4 hbg hst6c hb46 hb67 hb47 hL1 hlw hlg hlt6 y0 y1 y2
  subst hvw
  have hgc := hgot7.cell
  replace hst7 := hide hst7
  replace hbw7 := hide hbw7
  replace hX7 := hide hX7
  replace hsg := hide hsg
  replace hsw := hide hsw
  replace bx7 := hide bx7
  have lg7 := hgot7.lt
  have ln7 : gn < W7.heap.size := by omega
  clear hvg
  have hLs : (F.ofL L1).size ≤ 100000 := hLsz
  generalize WD.heap.size = gg at *
  obtain ⟨m1, hm1⟩ : ∃ m1, L1.length = m1 := ⟨_, rfl⟩
  rw [hm1] at hgot7 hgc hvl
  simp only [hm1]
  replace hgot7 := hide hgot7
  go_wp2
  go_loopg [16] m1 (fun gf s16 wx => ∃ i : Nat, s16 = .int .i64 i ∧ i + gf = m1 ∧ Below W7.heap.size W7 wx)
  case atStart => exact ⟨0, rfl, by omega, Below.refl _ _⟩
  case round =>
    obtain ⟨i, rfl, hig, hbr⟩ := hrel
    have hgcr := ((unhide hgot7).same (hbr.block gg lg7)).cell
    have lgg : gg < wr.heap.size := Nat.lt_of_lt_of_le lg7 hbr.size
    by_cases hlt : i < m1
    · have hlz : (i : Int) < m1 := by omega
      have hsgr := (unhide hsg).below hbr
      have hswr := (unhide hsw).below hbr
      rw [hm1] at hsgr hswr
      obtain ⟨g1, o1, kk, tt, a1', n1', c1', cc, rfl, ht1, hd1, x0, x1, x2, hs1⟩ := hsgr.at hlt
      obtain ⟨g2, o2, kk2, tt2, a2', n2', c2', cc2, rfl, ht2, hd2, v0, v1, v2, hs2⟩ := hswr.at hlt
      rw [hd1] at hd2
      injection hd2 with e1 e2 e3
      subst e1 e2 e3
      have lg1 := ht1.lt
      have lg2 := ht2.lt
      have hcsz := drop_c_size hd1
      have hin : (F.ofL L1).size ≤ 100000 := hLs
      replace hsgr := hide hsgr
      replace hswr := hide hswr
      replace hs1 := hide hs1
      replace hs2 := hide hs2
      replace hd1 := hide hd1
      replace hbr := hide hbr
      clear ht1 ht2
      obtain ⟨g', rfl⟩ : ∃ g', gk = g' + 1 := ⟨gk - 1, by omega⟩
      go_upto_region 15 with fail
      replace hs1 := unhide hs1
      replace hs2 := unhide hs2
      have hS : RowKit.Below wr.heap.size wr wr.drew := (RowKit.Below.refl _ _).drew
      refine wp_region_held_drew (S := fun w' => RowKit.Below wr.heap.size wr w') (by kernel_rfl) hS (fun _ => ?_)
      generalize World.drew wr = WD at hS ⊢
      refine wpAnyH_take (i := 0) (v := .slice (some ⟨g1, o1, none⟩) m1 cg) rfl (by kernel_rfl) (by kernel_rfl) (by kernel_rfl) (fun _ _ _ h => h) (Or.inl ⟨by kernel_rfl, ?_⟩) hS ?_
      · intro w hSw
        have e0 := (hSw.cell (p := ⟨gg, 0, none⟩) (by exact lgg)).trans hgcr
        clear hgcr
        clear x0 x1 x2 v0 v1 v2
        go_simp
      try simp only [List.getElem_toArray, List.getElem_cons_succ, List.getElem_cons_zero, Act.put, List.setIfInBounds_toArray, List.set_cons_zero, List.set_cons_succ]
      refine wpAnyH_take (i := 1) (v := .int .i64 i) rfl (by kernel_rfl) (by kernel_rfl) (by kernel_rfl) (fun _ _ _ h => h) (Or.inl ⟨by kernel_rfl, ?_⟩) hS ?_
      · intro w hSw
        clear hgcr
        clear x0 x1 x2 v0 v1 v2
        go_simp
      try simp only [List.getElem_toArray, List.getElem_cons_succ, List.getElem_cons_zero, Act.put, List.setIfInBounds_toArray, List.set_cons_zero, List.set_cons_succ]
      refine wpAnyH_take (i := 2) (v := .pointer (some ⟨g1, o1 + i * 3, none⟩)) rfl (by kernel_rfl) (by kernel_rfl) (by kernel_rfl) (fun _ _ _ h => h) (Or.inl ⟨by kernel_rfl, ?_⟩) hS ?_
      · intro w hSw
        clear hgcr
        clear x0 x1 x2 v0 v1 v2
        go_simp
      try simp only [List.getElem_toArray, List.getElem_cons_succ, List.getElem_cons_zero, Act.put, List.setIfInBounds_toArray, List.set_cons_zero, List.set_cons_succ]
      refine wpAnyH_take (i := 3) (v := .agg #[.int .i64 kk, .int .i64 tt, .slice a1' n1' c1']) rfl (by kernel_rfl) (by kernel_rfl) (by kernel_rfl) (fun _ _ _ h => h) (Or.inl ⟨by kernel_rfl, ?_⟩) hS ?_
      · intro w hSw
        have ex0 := (hSw.cell (p := ⟨g1, o1 + i * 3, none⟩) lg1).trans x0
        have ex1 := (hSw.cell (p := ⟨g1, o1 + i * 3 + 1, none⟩) lg1).trans x1
        have ex2 := (hSw.cell (p := ⟨g1, o1 + i * 3 + 2, none⟩) lg1).trans x2
        clear hgcr
        clear x0 x1 x2 v0 v1 v2
        go_simp
      try simp only [List.getElem_toArray, List.getElem_cons_succ, List.getElem_cons_zero, Act.put, List.setIfInBounds_toArray, List.set_cons_zero, List.set_cons_succ]
      refine wpAnyH_take (i := 4) (v := .slice (some ⟨g2, o2, none⟩) m1 cw) rfl (by kernel_rfl) (by kernel_rfl) (by kernel_rfl) (fun _ _ _ h => h) (Or.inl ⟨by kernel_rfl, ?_⟩) hS ?_
      · intro w hSw
        clear hgcr
        clear x0 x1 x2 v0 v1 v2
        go_simp
      try simp only [List.getElem_toArray, List.getElem_cons_succ, List.getElem_cons_zero, Act.put, List.setIfInBounds_toArray, List.set_cons_zero, List.set_cons_succ]
      refine wpAnyH_take (i := 5) (v := .int .i64 i) rfl (by kernel_rfl) (by kernel_rfl) (by kernel_rfl) (fun _ _ _ h => h) (Or.inl ⟨by kernel_rfl, ?_⟩) hS ?_
      · intro w hSw
        clear hgcr
        clear x0 x1 x2 v0 v1 v2
        go_simp
      try simp only [List.getElem_toArray, List.getElem_cons_succ, List.getElem_cons_zero, Act.put, List.setIfInBounds_toArray, List.set_cons_zero, List.set_cons_succ]
      refine wpAnyH_take (i := 6) (v := .pointer (some ⟨g2, o2 + i * 3, none⟩)) rfl (by kernel_rfl) (by kernel_rfl) (by kernel_rfl) (fun _ _ _ h => h) (Or.inl ⟨by kernel_rfl, ?_⟩) hS ?_
      · intro w hSw
        clear hgcr
        clear x0 x1 x2 v0 v1 v2
        go_simp
      try simp only [List.getElem_toArray, List.getElem_cons_succ, List.getElem_cons_zero, Act.put, List.setIfInBounds_toArray, List.set_cons_zero, List.set_cons_succ]
      refine wpAnyH_take (i := 7) (v := .agg #[.int .i64 kk, .int .i64 tt, .slice a2' n2' c2']) rfl (by kernel_rfl) (by kernel_rfl) (by kernel_rfl) (fun _ _ _ h => h) (Or.inl ⟨by kernel_rfl, ?_⟩) hS ?_
      · intro w hSw
        have ev0 := (hSw.cell (p := ⟨g2, o2 + i * 3, none⟩) lg2).trans v0
        have ev1 := (hSw.cell (p := ⟨g2, o2 + i * 3 + 1, none⟩) lg2).trans v1
        have ev2 := (hSw.cell (p := ⟨g2, o2 + i * 3 + 2, none⟩) lg2).trans v2
        clear hgcr
        clear x0 x1 x2 v0 v1 v2
        go_simp
      try simp only [List.getElem_toArray, List.getElem_cons_succ, List.getElem_cons_zero, Act.put, List.setIfInBounds_toArray, List.set_cons_zero, List.set_cons_succ]
      refine wpAnyH_ready (rs := [8]) (by kernel_rfl) (by decide) ?_
      refine AllReadyH.cons rfl (fun K' hK => ?_) AllReadyH.nil
      rw [if_pos (by kernel_rfl)]
      refine oper_call (run_call2 cf_rEqN) ((rEqN_any 100001 kk tt kk tt a1' a2' n1' c1' n2' c2' cc cc WD (by omega) (by omega) (hs1.below hS) (hs2.below hS)).mono ?_)
      rintro e WX ⟨rfl, hbX⟩
      rw [decide_eq_true rfl]
      have hS' : RowKit.Below wr.heap.size wr WX := hS.trans (hbX.mono hS.size)
      refine ⟨_, rfl, hK.out _ _ hS' (fun _ => ?_)⟩
      clear hK K' hS
      have hS := hS'
      clear hS'
      generalize WX = WD at *
      try simp only [List.getElem_toArray, List.getElem_cons_succ, List.getElem_cons_zero, Act.put, List.setIfInBounds_toArray, List.set_cons_zero, List.set_cons_succ]
      refine wpAnyH_ready (rs := [9]) (by kernel_rfl) (by decide) ?_
      refine AllReadyH.cons rfl (fun K' hK => ?_) AllReadyH.nil
      rw [if_pos (by kernel_rfl)]
      refine oper_of_run (v := .bool false) (w' := WD) (rfl) ?_
      refine hK.out _ _ hS (fun _ => ?_)
      clear hK K'
      try simp only [List.getElem_toArray, List.getElem_cons_succ, List.getElem_cons_zero, Act.put, List.setIfInBounds_toArray, List.set_cons_zero, List.set_cons_succ]
      refine wpAnyH_done (by kernel_rfl) ?_ _
      have hbe := below3 (unhide hbr) hS
      clear hS hs1 hs2 x0 x1 x2 v0 v1 v2 hgcr
      replace hbe := hide hbe
      go_wp2
      go_roundg g'
      case measure => omega
      case rel => exact ⟨i + 1, by go_num, by omega, unhide hbe⟩
    · have hlz : ¬ (i : Int) < m1 := by omega
      have bx8 := (unhide bx7).below hbr ln7
      have hX8 := (unhide hX7).below hbr
      have hbw8 := below3 (unhide hbw7) hbr
      have ln8 : gn < wr.heap.size := Nat.lt_of_lt_of_le ln7 hbr.size
      clear bx7 hX7 hbw7 hst7
      have hW8 := hide (nlWalk_any (-1) wr wr.heap.size (Nat.le_refl _) 1000 xk xt a5 n5 c5 xc wr (.slice none 0 0) [] [] (by omega) (by omega) hX8 (Below.refl _ _) (Nat.le_refl _) (ownN_nil _ _) trivial (by simp; omega))
      obtain ⟨y0, y1, y2⟩ := id bx8
      replace bx8 := hide bx8
      replace hX8 := hide hX8
      replace hbw8 := hide hbw8
      clear hsg hsw hgot7 hbr hgc
      go_wp2_with fail
      refine (unhide hW8).mono ?_
      rintro e W9 ⟨v9, xs9, rfl, ho9, hr9, hM9⟩
      have hb89 : Below wr.heap.size wr W9 := hM9.below (fun g hg => by cases hg) (Nat.le_refl _)
      have hbw9 := below3 (unhide hbw8) hb89
      have bx9 := (unhide bx8).below hb89 ln8
      have hX9 := (unhide hX8).below hb89
      obtain ⟨aa, ca, hva, hsa, _⟩ := OwnN.sl (P := fun _ => True) ho9 (hr9.mono (fun _ _ => trivial)) (fun _ _ => trivial)
      have hla : xs9.length = (vlN (fun k => k != -1) ⟨xk, xt, xc⟩).length := by rw [hr9.len, ofL_len, List.nil_append]
      rw [List.nil_append, hla] at hsa
      rw [hla] at hva
      have hW9 := hide (fun W (h : Below W9.heap.size W9 W) => ndFind_any xk xt a3 a5 n5 c5 xc W (hX9.below h) (by omega))
      have ln9 : gn < W9.heap.size := Nat.lt_of_lt_of_le ln8 hb89.size
      have hVs := vlN_size (fun k => k != -1) ⟨xk, xt, xc⟩ hs0
      have hVl := vlN_len (fun k => k != -1) ⟨xk, xt, xc⟩
      dsimp only at hVl
      rw [unhide hVA] at hsa hva hVs hVl
      clear hW8 hr9 ho9 hM9 bx8 hX8 hbw8 hla hX9 hVA y0 y1 y2
      subst hva
      obtain ⟨y0, y1, y2⟩ := id bx9
      replace bx9 := hide bx9
      replace hbw9 := hide hbw9
      replace hsa := hide hsa
      replace hb89 := hide hb89
      go_wp2_with fail
      refine (unhide hW9 _ (Below.refl _ _)).mono ?_
      rintro e WA ⟨Lf, af, cf, rfl, hLf, hsf, hb9A⟩
      rw [visN_fst] at hLf
      generalize vlN allA ⟨xk, xt, xc⟩ = L2 at *
      have hsa9 := (unhide hsa).below hb9A
      have hbwA := below3 (unhide hbw9) hb9A
      obtain ⟨m2, hm2⟩ : ∃ m2, L2.length = m2 := ⟨_, rfl⟩
      obtain ⟨mf, hmf⟩ : ∃ mf, Lf.length = mf := ⟨_, rfl⟩
      have hLfl : mf ≤ m2 := by rw [← hmf, ← hm2, hLf]; exact List.length_filter_le _ _
      rw [hm2] at hsa9 hVl
      rw [hmf] at hsf
      simp only [hm2, hmf]
      clear hsa bx9 hbw9 hW9 hb9A hb89 y0 y1 y2
      replace hsa9 := hide hsa9
      replace hsf := hide hsf
      replace hbwA := hide hbwA
      replace hLf := hide hLf
      replace hm2 := hide hm2
      replace hmf := hide hmf
      replace hgs := hide hgs
      go_wp2
      go_loopg [19, 20] m2 (fun gf s19 s20 wx => ∃ i k : Nat, k = ((L2.take i).filter (fun x => decide (x.t = a3))).length ∧ s19 = .int .i64 k ∧ s20 = .int .i64 i ∧ i + gf = m2 ∧ Below WA.heap.size WA wx)
      case atStart => exact ⟨0, 0, rfl, rfl, rfl, by omega, Below.refl _ _⟩
      case round =>
        obtain ⟨i, kN, hkN, rfl, rfl, hig, hbr⟩ := hrel
        have hkl : kN ≤ i := by
          rw [hkN]
          exact Nat.le_trans (List.length_filter_le _ _) (by simp; omega)
        by_cases hlt : i < m2
        · have hlz : (i : Int) < m2 := by omega
          have hsar := (unhide hsa9).below hbr
          obtain ⟨g1, o1, kk, tt, a1', n1', c1', cc, rfl, ht1, hd1, x0, x1, x2, hs1⟩ := hsar.at hlt
          have lg1 := ht1.lt
          have hcsz := drop_c_size hd1
          have hxi := ofL_drop L2 i hd1
          have hsn := filter_snoc (fun x => decide (x.t = a3)) L2 i _ hxi
          have hfa := filter_at (fun x => decide (x.t = a3)) L2 i _ hxi
          rw [← hkN] at hsn hfa
          rw [← unhide hLf] at hfa
          obtain ⟨g', rfl⟩ : ∃ g', gk = g' + 1 := ⟨gk - 1, by omega⟩
          dsimp only at hsn hfa
          by_cases htt : tt = a3
          · rw [if_pos (by simpa using htt)] at hsn
            have hfk := hfa (by simpa using htt)
            have hkf : kN < mf := by rw [← unhide hmf]; exact (List.getElem?_eq_some_iff.1 hfk).1
            have hsfr := (unhide hsf).below hbr
            obtain ⟨g2, o2, kk2, tt2, a2', n2', c2', cc2, rfl, ht2, hd2, v0, v1, v2, hs2⟩ := hsfr.at hkf
            have lg2 := ht2.lt
            have hx2 := ofL_drop Lf kN hd2
            rw [hfk] at hx2
            simp only [Option.some.injEq, Nd.mk.injEq] at hx2
            obtain ⟨rfl, rfl, rfl⟩ := hx2
            have hkz : ¬ (mf : Int) ≤ kN := by omega
            have hkz2 : (kN : Int) < mf := by omega
            have hin : (F.ofL L2).size ≤ 100000 := hVs
            subst htt
            replace hs1 := hide hs1
            replace hs2 := hide hs2
            replace hsar := hide hsar
            replace hsfr := hide hsfr
            replace hbr := hide hbr
            replace hsn := hide hsn
            replace hkN := hide hkN
            clear hfa hfk hd1 hd2 ht1 ht2 hxi
            go_upto_region 24 with fail
            replace hs1 := unhide hs1
            replace hs2 := unhide hs2
            have hS : RowKit.Below wr.heap.size wr wr.drew := (RowKit.Below.refl _ _).drew
            refine wp_region_held_drew (S := fun w' => RowKit.Below wr.heap.size wr w') (by kernel_rfl) hS (fun _ => ?_)
            generalize World.drew wr = WD at hS ⊢
            refine wpAnyH_take (i := 0) (v := .int .i64 kN) rfl (by kernel_rfl) (by kernel_rfl) (by kernel_rfl) (fun _ _ _ h => h) (Or.inl ⟨by kernel_rfl, ?_⟩) hS ?_
            · intro w hSw
              clear x0 x1 x2 v0 v1 v2
              go_simp
            try simp only [List.getElem_toArray, List.getElem_cons_succ, List.getElem_cons_zero, Act.put, List.setIfInBounds_toArray, List.set_cons_zero, List.set_cons_succ]
            refine wpAnyH_take (i := 1) (v := .slice (some ⟨g2, o2, none⟩) mf cf) rfl (by kernel_rfl) (by kernel_rfl) (by kernel_rfl) (fun _ _ _ h => h) (Or.inl ⟨by kernel_rfl, ?_⟩) hS ?_
            · intro w hSw
              clear x0 x1 x2 v0 v1 v2
              go_simp
            try simp only [List.getElem_toArray, List.getElem_cons_succ, List.getElem_cons_zero, Act.put, List.setIfInBounds_toArray, List.set_cons_zero, List.set_cons_succ]
            refine wpAnyH_take (i := 2) (v := .int .i64 mf) rfl (by kernel_rfl) (by kernel_rfl) (by kernel_rfl) (fun _ _ _ h => h) (Or.inl ⟨by kernel_rfl, ?_⟩) hS ?_
            · intro w hSw
              clear x0 x1 x2 v0 v1 v2
              go_simp
            try simp only [List.getElem_toArray, List.getElem_cons_succ, List.getElem_cons_zero, Act.put, List.setIfInBounds_toArray, List.set_cons_zero, List.set_cons_succ]
            refine wpAnyH_take (i := 3) (v := .bool false) rfl (by kernel_rfl) (by kernel_rfl) (by kernel_rfl) (fun _ _ _ h => h) (Or.inl ⟨by kernel_rfl, ?_⟩) hS ?_
            · intro w hSw
              clear x0 x1 x2 v0 v1 v2
              go_simp
            try simp only [List.getElem_toArray, List.getElem_cons_succ, List.getElem_cons_zero, Act.put, List.setIfInBounds_toArray, List.set_cons_zero, List.set_cons_succ]
            refine wpAnyH_take (i := 4) (v := .bool false) rfl (by kernel_rfl) (by kernel_rfl) (by kernel_rfl) (fun _ _ _ h => h) (Or.inl ⟨by kernel_rfl, ?_⟩) hS ?_
            · intro w hSw
              clear x0 x1 x2 v0 v1 v2
              go_simp
            try simp only [List.getElem_toArray, List.getElem_cons_succ, List.getElem_cons_zero, Act.put, List.setIfInBounds_toArray, List.set_cons_zero, List.set_cons_succ]
            refine wpAnyH_take (i := 5) (v := .slice (some ⟨g2, o2, none⟩) mf cf) rfl (by kernel_rfl) (by kernel_rfl) (by kernel_rfl) (fun _ _ _ h => h) (Or.inl ⟨by kernel_rfl, ?_⟩) hS ?_
            · intro w hSw
              clear x0 x1 x2 v0 v1 v2
              go_simp
            try simp only [List.getElem_toArray, List.getElem_cons_succ, List.getElem_cons_zero, Act.put, List.setIfInBounds_toArray, List.set_cons_zero, List.set_cons_succ]
            refine wpAnyH_take (i := 6) (v := .int .i64 kN) rfl (by kernel_rfl) (by kernel_rfl) (by kernel_rfl) (fun _ _ _ h => h) (Or.inl ⟨by kernel_rfl, ?_⟩) hS ?_
            · intro w hSw
              clear x0 x1 x2 v0 v1 v2
              go_simp
            try simp only [List.getElem_toArray, List.getElem_cons_succ, List.getElem_cons_zero, Act.put, List.setIfInBounds_toArray, List.set_cons_zero, List.set_cons_succ]
            refine wpAnyH_take (i := 7) (v := .pointer (some ⟨g2, o2 + kN * 3, none⟩)) rfl (by kernel_rfl) (by kernel_rfl) (by kernel_rfl) (fun _ _ _ h => h) (Or.inl ⟨by kernel_rfl, ?_⟩) hS ?_
            · intro w hSw
              clear x0 x1 x2 v0 v1 v2
              go_simp
            try simp only [List.getElem_toArray, List.getElem_cons_succ, List.getElem_cons_zero, Act.put, List.setIfInBounds_toArray, List.set_cons_zero, List.set_cons_succ]
            refine wpAnyH_take (i := 8) (v := .agg #[.int .i64 kk, .int .i64 tt, .slice a2' n2' c2']) rfl (by kernel_rfl) (by kernel_rfl) (by kernel_rfl) (fun _ _ _ h => h) (Or.inl ⟨by kernel_rfl, ?_⟩) hS ?_
            · intro w hSw
              have ev0 := (hSw.cell (p := ⟨g2, o2 + kN * 3, none⟩) lg2).trans v0
              have ev1 := (hSw.cell (p := ⟨g2, o2 + kN * 3 + 1, none⟩) lg2).trans v1
              have ev2 := (hSw.cell (p := ⟨g2, o2 + kN * 3 + 2, none⟩) lg2).trans v2
              clear x0 x1 x2 v0 v1 v2
              go_simp
            try simp only [List.getElem_toArray, List.getElem_cons_succ, List.getElem_cons_zero, Act.put, List.setIfInBounds_toArray, List.set_cons_zero, List.set_cons_succ]
            refine wpAnyH_take (i := 9) (v := .slice (some ⟨g1, o1, none⟩) m2 ca) rfl (by kernel_rfl) (by kernel_rfl) (by kernel_rfl) (fun _ _ _ h => h) (Or.inl ⟨by kernel_rfl, ?_⟩) hS ?_
            · intro w hSw
              clear x0 x1 x2 v0 v1 v2
              go_simp
            try simp only [List.getElem_toArray, List.getElem_cons_succ, List.getElem_cons_zero, Act.put, List.setIfInBounds_toArray, List.set_cons_zero, List.set_cons_succ]
            refine wpAnyH_take (i := 10) (v := .int .i64 i) rfl (by kernel_rfl) (by kernel_rfl) (by kernel_rfl) (fun _ _ _ h => h) (Or.inl ⟨by kernel_rfl, ?_⟩) hS ?_
            · intro w hSw
              clear x0 x1 x2 v0 v1 v2
              go_simp
            try simp only [List.getElem_toArray, List.getElem_cons_succ, List.getElem_cons_zero, Act.put, List.setIfInBounds_toArray, List.set_cons_zero, List.set_cons_succ]
            refine wpAnyH_take (i := 11) (v := .pointer (some ⟨g1, o1 + i * 3, none⟩)) rfl (by kernel_rfl) (by kernel_rfl) (by kernel_rfl) (fun _ _ _ h => h) (Or.inl ⟨by kernel_rfl, ?_⟩) hS ?_
            · intro w hSw
              clear x0 x1 x2 v0 v1 v2
              go_simp
            try simp only [List.getElem_toArray, List.getElem_cons_succ, List.getElem_cons_zero, Act.put, List.setIfInBounds_toArray, List.set_cons_zero, List.set_cons_succ]
            refine wpAnyH_take (i := 12) (v := .agg #[.int .i64 kk, .int .i64 tt, .slice a1' n1' c1']) rfl (by kernel_rfl) (by kernel_rfl) (by kernel_rfl) (fun _ _ _ h => h) (Or.inl ⟨by kernel_rfl, ?_⟩) hS ?_
            · intro w hSw
              have ex0 := (hSw.cell (p := ⟨g1, o1 + i * 3, none⟩) lg1).trans x0
              have ex1 := (hSw.cell (p := ⟨g1, o1 + i * 3 + 1, none⟩) lg1).trans x1
              have ex2 := (hSw.cell (p := ⟨g1, o1 + i * 3 + 2, none⟩) lg1).trans x2
              clear x0 x1 x2 v0 v1 v2
              go_simp
            try simp only [List.getElem_toArray, List.getElem_cons_succ, List.getElem_cons_zero, Act.put, List.setIfInBounds_toArray, List.set_cons_zero, List.set_cons_succ]
            refine wpAnyH_ready (rs := [13]) (by kernel_rfl) (by decide) ?_
            refine AllReadyH.cons rfl (fun K' hK => ?_) AllReadyH.nil
            rw [if_pos (by kernel_rfl)]
            refine oper_call (run_call2 cf_rEqN) ((rEqN_any 100001 kk tt kk tt a2' a1' n2' c2' n1' c1' cc cc WD (by omega) (by omega) (hs2.below hS) (hs1.below hS)).mono ?_)
            rintro e WX ⟨rfl, hbX⟩
            rw [decide_eq_true rfl]
            have hS' : RowKit.Below wr.heap.size wr WX := hS.trans (hbX.mono hS.size)
            refine ⟨_, rfl, hK.out _ _ hS' (fun _ => ?_)⟩
            clear hK K' hS
            have hS := hS'
            clear hS'
            generalize WX = WD at *
            try simp only [List.getElem_toArray, List.getElem_cons_succ, List.getElem_cons_zero, Act.put, List.setIfInBounds_toArray, List.set_cons_zero, List.set_cons_succ]
            refine wpAnyH_take (i := 14) (v := .bool false) rfl (by kernel_rfl) (by kernel_rfl) (by kernel_rfl) (fun _ _ _ h => h) (Or.inl ⟨by kernel_rfl, ?_⟩) hS ?_
            · intro w hSw
              go_simp
            try simp only [List.getElem_toArray, List.getElem_cons_succ, List.getElem_cons_zero, Act.put, List.setIfInBounds_toArray, List.set_cons_zero, List.set_cons_succ]
            refine wpAnyH_ready (rs := [15]) (by kernel_rfl) (by decide) ?_
            refine AllReadyH.cons rfl (fun K' hK => ?_) AllReadyH.nil
            rw [if_pos (by kernel_rfl)]
            refine oper_of_run (v := .bool false) (w' := WD) (rfl) ?_
            refine hK.out _ _ hS (fun _ => ?_)
            clear hK K'
            try simp only [List.getElem_toArray, List.getElem_cons_succ, List.getElem_cons_zero, Act.put, List.setIfInBounds_toArray, List.set_cons_zero, List.set_cons_succ]
            refine wpAnyH_done (by kernel_rfl) ?_ _
            have hbe := below3 (unhide hbr) hS
            clear hS hs1 hs2 x0 x1 x2 v0 v1 v2
            replace hbe := hide hbe
            go_wp2
            go_roundg g'
            case measure => omega
            case rel => exact ⟨i + 1, kN + 1, (unhide hsn).symm, by go_num, by go_num, by omega, unhide hbe⟩
          · rw [if_neg (by simpa using htt)] at hsn
            replace hbr := hide hbr
            replace hsn := hide hsn
            replace hkN := hide hkN
            clear hfa hd1 ht1 hxi hs1 hsar
            go_wp2
            go_roundg g'
            case measure => omega
            case rel => exact ⟨i + 1, kN, (unhide hsn).symm, rfl, by go_num, by omega, unhide hbr⟩
        · have hlz : ¬ (i : Int) < m2 := by omega
          have hkf : kN = mf := by
            rw [hkN, ← unhide hmf, unhide hLf, List.take_of_length_le (by rw [unhide hm2]; omega)]
          have hbwE := below3 (unhide hbwA) hbr
          replace hbwE := hide hbwE
          clear hkN hbr
          subst hkf
          go_wp2
          go_ret
          exact ⟨rfl, unhide hbwE⟩
end Go.Proofs.YthnapcdanccohaaDoor

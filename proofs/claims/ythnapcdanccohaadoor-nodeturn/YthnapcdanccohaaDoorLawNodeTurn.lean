/-
  The law NodeTurn.
-/
import Derived.Test.YthnapcdanccohaaDoorNdTurnW
import Derived.Test.YthnapcdanccohaaDoorNdLaid
import Derived.Test.YthnapcdanccohaaDoorNdBegun
import Derived.Test.YthnapcdanccohaaDoorNdCnt
namespace Go.Proofs.YthnapcdanccohaaDoor
open Go.RowKit Go.Lib Go.Sort
set_option linter.unusedSimpArgs false
set_option linter.unusedVariables false
set_option maxHeartbeats 4000000 in
set_option maxRecDepth 100000 in
theorem nodeTurn_shell (a0 : Option Addr) (len0 cap0 : Nat) (z0 : List Int) (a1 : Int) (a2 : Bool) (w : World) (w0 : IsRow .i64 w a0 len0 cap0 z0) (w1 : (Lit.int .i64 a1).wf = true) (hT : Tab w) :
    Calls Tryd.prog 4 #[.slice a0 len0 cap0, .int .i64 a1, .bool a2] w fun e w' => e = .returned (.bool true) ∧ Below w.heap.size w w' := by
  have HB := hide (fun W (h : Tab W) => nlBegun_any W h)
  have H0 := hide (fun W (hW : Below w.heap.size w W) => row_tree w0 W hW)
  have z1 := bounds_i64 w1
  have hsx := treeN_size (z0.take len0)
  generalize treeN (z0.take len0) = X at *
  obtain ⟨xk, xt, xc⟩ := X
  dsimp only at hsx H0
  clear w0 w1
  replace hT := hide hT
  go_enter Tryd.func4, Tryd.ntmps4
  go_wp2_with fail
  refine (unhide HB _ (unhide hT)).mono ?_
  rintro e W0 ⟨rfl, hb⟩
  have hbW0 : Below w.heap.size w W0 := hb
  clear HB hb hT
  replace hbW0 := hide hbW0
  go_wp2_with fail
  refine (unhide H0 _ (unhide hbW0)).mono ?_
  rintro e W1 ⟨a5, n5, c5, rfl, hX1, hb⟩
  have hbW1 := below3 (unhide hbW0) hb
  clear hb hbW0
  replace hbW1 := hide hbW1
  replace hX1 := hide hX1.any
  go_wp2_with fail
  refine (unhide H0 _ (unhide hbW1)).mono ?_
  rintro e W2 ⟨a6, n6, c6, rfl, hY2, hb⟩
  have hbW2 := below3 (unhide hbW1) hb
  have hX2 := ((unhide hX1).mono (P' := fun g => g < W1.heap.size) (fun g hg => hg.lt)).below hb
  have hW12 := hb.size
  have hY2' := hY2.mono (P' := fun g => W1.heap.size ≤ g ∧ g ≠ W2.heap.size) (fun g hg => ⟨hg.1, Nat.ne_of_lt hg.lt⟩)
  have hwW1 : w.heap.size ≤ W1.heap.size := (unhide hbW1).size
  clear H0 hb hbW1 hX1 hY2
  have hWw : w.heap.size ≤ W2.heap.size := (unhide hbW2).size
  have hW1w : w.heap.size ≤ W2.heap.size := hWw
  have n0 := nblk_new W2 0 0 none 0 0
  have n1 := nblk_new (W2.alloc (.cells #[.int .i64 0, .int .i64 0, .slice none 0 0] 26 (0, 0))) 0 0 none 0 0
  replace hbW2 := hide hbW2
  replace hX2 := hide hX2
  replace hY2' := hide hY2'
  replace n0 := hide n0
  replace n1 := hide n1
  have hb23 : Below W2.heap.size W2 ((W2.alloc (.cells #[.int .i64 xk, .int .i64 xt, .slice a5 n5 c5] 26 (0, 0))).alloc (.cells #[.int .i64 xk, .int .i64 xt, .slice a6 n6 c6] 26 (0, 0))) := below3 (below_alloc _ _) (below_alloc _ _)
  have hbw3 := hide (below3 (unhide hbW2) hb23)
  by_cases hneg : a1 < 0
  · clear hb23
    go_wp2
    go_ret
    exact ⟨rfl, unhide hbw3⟩
  · go_upto_region 7 with fail
    have bx : BoxN ((W2.alloc (.cells #[.int .i64 xk, .int .i64 xt, .slice a5 n5 c5] 26 (0, 0))).alloc (.cells #[.int .i64 xk, .int .i64 xt, .slice a6 n6 c6] 26 (0, 0))) W2.heap.size xk xt a5 n5 c5 := (boxN_new W2 xk xt a5 n5 c5).below (below_alloc _ _) (by simp)
    have by2 : BoxN ((W2.alloc (.cells #[.int .i64 xk, .int .i64 xt, .slice a5 n5 c5] 26 (0, 0))).alloc (.cells #[.int .i64 xk, .int .i64 xt, .slice a6 n6 c6] 26 (0, 0))) (W2.heap.size + 1) xk xt a6 n6 c6 := by
      have := boxN_new (W2.alloc (.cells #[.int .i64 xk, .int .i64 xt, .slice a5 n5 c5] 26 (0, 0))) xk xt a6 n6 c6
      simpa using this
    have htm : TagQ (fun g => W1.heap.size ≤ g ∧ g ≠ W2.heap.size) ((W2.alloc (.cells #[.int .i64 xk, .int .i64 xt, .slice a5 n5 c5] 26 (0, 0))).alloc (.cells #[.int .i64 xk, .int .i64 xt, .slice a6 n6 c6] 26 (0, 0))) (W2.heap.size + 1) := by
      refine ⟨⟨by omega, by omega⟩, #[.int .i64 xk, .int .i64 xt, .slice a6 n6 c6], ?_⟩
      have := heap_alloc_new (W2.alloc (.cells #[.int .i64 xk, .int .i64 xt, .slice a5 n5 c5] 26 (0, 0))) (.cells #[.int .i64 xk, .int .i64 xt, .slice a6 n6 c6] 26 (0, 0))
      simpa using this
    have hX := (unhide hX2).below hb23
    have hY := (unhide hY2').below hb23
    have hsz : ((W2.alloc (.cells #[.int .i64 xk, .int .i64 xt, .slice a5 n5 c5] 26 (0, 0))).alloc (.cells #[.int .i64 xk, .int .i64 xt, .slice a6 n6 c6] 26 (0, 0))).heap.size = W2.heap.size + 2 := by simp
    clear hX2 hY2' hbW2 hb23 n0 n1
    generalize ((W2.alloc (.cells #[.int .i64 xk, .int .i64 xt, .slice a5 n5 c5] 26 (0, 0))).alloc (.cells #[.int .i64 xk, .int .i64 xt, .slice a6 n6 c6] 26 (0, 0))) = W3 at *
    obtain ⟨gm, hgm⟩ : ∃ gm, W2.heap.size + 1 = gm := ⟨_, rfl⟩
    rw [hgm] at by2 htm
    simp only [hgm]
    have lgm : gm < W3.heap.size := by omega
    have lgn : W2.heap.size < W3.heap.size := by omega
    have hgne : W2.heap.size ≠ gm := by omega
    have hW1m : W1.heap.size ≤ gm := by omega
    clear hgm
    generalize W2.heap.size = gn at *
    have hmN : NdQ (fun g => W1.heap.size ≤ g ∧ g ≠ gn) W3 (.cons xk xt xc .nil) gm 0 := NdQ.cons_iff.2 ⟨by2.1, by2.2.1, ⟨a6, n6, c6, by2.2.2, hY⟩, trivial⟩
    have hC := hide (nlCount_any 1000 xk xt a6 n6 c6 xc W3 (by omega) (by omega) hY.any)
    have bx0 := hide bx
    obtain ⟨m0, m1, m2⟩ := id by2
    replace by2 := hide by2
    replace htm := hide htm
    replace hX := hide hX
    replace hY := hide hY
    replace hmN := hide hmN
    clear bx
    obtain ⟨sz, hsz1⟩ : ∃ sz, xc.size + 1 = sz := ⟨_, rfl⟩
    rw [hsz1] at hC
    have hszl : 1 ≤ sz ∧ sz ≤ 41 := by omega
    replace hsz1 := hide hsz1
    go_wp2_with fail
    refine (unhide hC).mono ?_
    rintro e W4 ⟨rfl, hb4⟩
    clear hC
    have hbw4 := hide (below3 (unhide hbw3) hb4)
    have htm4 := hide ((keep_below hb4).tag (unhide htm))
    have hmN4 := hide ((unhide hmN).keep (keep_below hb4) _ _ _ (unhide htm))
    have hX4 := hide ((unhide hX).below hb4)
    have bx4 := hide ((unhide bx0).below hb4 lgn)
    have hlt4 := hb4.size
    clear hbw3 htm hmN hX bx0 hY by2 m0 m1 m2 hb4
    go_upto_region 8 with fail
    have hb5 := below_alloc W4 (.cells #[.int .i64 (a1 % sz)] 3 (0, 0))
    have hc5 := cell1_new W4 3 (.int .i64 (a1 % sz))
    have hbw5 := below3 (unhide hbw4) hb5
    have htm5 := (keep_below hb5).tag (unhide htm4)
    have hmN5 := (unhide hmN4).keep (keep_below hb5) _ _ _ (unhide htm4)
    have hX5 := (unhide hX4).below hb5
    have bx5 := (unhide bx4).below hb5 (by omega)
    have hz0 : 0 ≤ a1 % (sz : Int) := Int.emod_nonneg _ (by omega)
    have hzl : a1 % (sz : Int) < sz := Int.emod_lt_of_pos _ (by omega)
    have hlg : W4.heap.size < (W4.alloc (.cells #[.int .i64 (a1 % sz)] 3 (0, 0))).heap.size := by simp
    generalize (W4.alloc (.cells #[.int .i64 (a1 % sz)] 3 (0, 0))) = W5 at *
    generalize a1 % (sz : Int) = z at *
    have hgk1 : W1.heap.size ≤ W4.heap.size := by omega
    have hgkn : gn < W4.heap.size := by omega
    have hgkm : gm < W4.heap.size := by omega
    generalize W4.heap.size = gk at *
    clear hbw4 htm4 hmN4 hX4 bx4 hb5
    have hW := hide (nlTurn_any _ gk a2 1000 W5 gm 0 xk xt xc .nil z (by omega) (by omega) (by omega) (by omega) htm5 hmN5 hc5)
    replace hbw5 := hide hbw5
    replace hc5 := hide hc5
    replace htm5 := hide htm5
    replace hmN5 := hide hmN5
    replace hX5 := hide hX5
    replace bx5 := hide bx5
    go_wp2_with fail
    refine (unhide hW).mono ?_
    rintro e W6 ⟨rfl, hc6, hTT⟩
    rcases hTT with ⟨h, _⟩ | ⟨_, p, q, x, e1, e2, e3, e4⟩
    · exact absurd ⟨hz0, by have := unhide hsz1; omega⟩ h
    have hpk : p ≠ gk := tag_ne (unhide hc5) e2
    have hp1 := e2.1
    have hblk : ∀ y, y ≠ p → y ≠ gk → W6.heap[y]? = W5.heap[y]? := fun y h1 h2 => (e3.block y h2).trans (Below.heap_setCell _ _ _ y h1)
    have hbx6 : BoxN W6 gn xk xt a5 n5 c5 := (unhide bx5).same (hblk gn (fun e => hp1.2 e.symm) (by omega))
    have hX6 := (unhide hX5).keep (w' := W6) (fun y hy => hblk y (by have := hy.1; have := hp1.1; omega) (by have := hy.1; omega))
    obtain ⟨f', hf', hsh⟩ := (unhide hmN5).turn (y := wrap64 (x + 1)) e1
    have hct : Cell1 (W5.setCell ⟨p, q, none⟩ (.int .i64 (wrap64 (x + 1)))) gk 3 (.int .i64 z) := (unhide hc5).same (Below.heap_setCell _ _ _ _ (Ne.symm hpk))
    have hf6 := hf'.keep (e3.keep hct) _ _ _ (tag_set (unhide htm5))
    have hbw6 : Below w.heap.size w W6 := by
      have hb := unhide hbw5
      have hM : Moves (fun _ => False) (fun _ => False) w W6 := ⟨e3.os.trans hb.os, e3.tape.trans hb.tape, e3.output.trans hb.output, by rw [e3.size]; simp; exact hb.size, fun y hy _ => (hblk y (by have := hp1.1; omega) (by omega)).trans (hb.block y hy), fun _ h => h.elim⟩
      exact hM.below (fun _ h => h.elim) (Nat.le_refl _)
    cases f' with
    | nil => exact hsh.elim
    | cons k' t' c' r' =>
      have hne := e4 _ k' t' c' r' hf6
      have hcsz := hsh.1.size
      obtain ⟨v0, v1, ⟨a7, n7, c7, v2, hM7⟩, _⟩ := NdQ.cons_iff.1 hf6
      have hx6 := hX6.any
      have hm6 := hM7.any
      have hwn : gn < W6.heap.size := World.block_lt_of_cell? W6 ⟨gn, 0, none⟩ hbx6.1
      have hwm : gm < W6.heap.size := World.block_lt_of_cell? W6 ⟨gm, 0, none⟩ v0
      have hE := hide (fun W (h : Below W6.heap.size W6 W) => ndEq_any xk xt xk xt a5 a5 n5 c5 n5 c5 xc xc W (hx6.below h) (hx6.below h) (by omega))
      have hE1 := hide (fun W (h : Below W6.heap.size W6 W) => ndEq_any xk xt k' t' a5 a7 n5 c5 n7 c7 xc c' W (hx6.below h) (hm6.below h) (by omega))
      have hE2 := hide (fun W (h : Below W6.heap.size W6 W) => ndEq_any k' t' xk xt a7 a5 n7 c7 n5 c5 c' xc W (hm6.below h) (hx6.below h) (by omega))
      have d0 : Hid (decide ((⟨xk, xt, xc⟩ : Nd) = ⟨xk, xt, xc⟩) = true) := hide (decide_eq_true rfl)
      have d1 : Hid (decide ((⟨xk, xt, xc⟩ : Nd) = ⟨k', t', c'⟩) = false) := hide (decide_eq_false (fun e => hne e.symm))
      have d2 : Hid (decide ((⟨k', t', c'⟩ : Nd) = ⟨xk, xt, xc⟩) = false) := hide (decide_eq_false hne)
      obtain ⟨u0, u1, u2⟩ := id hbx6
      have hby6 : BoxN W6 gm k' t' a7 n7 c7 := ⟨v0, v1, v2⟩
      replace hbx6 := hide hbx6
      replace hby6 := hide hby6
      replace hbw6 := hide hbw6
      clear hW hc5 htm5 hmN5 hX5 bx5 hbw5 hc6 e1 e2 e3 e4 hblk hX6 hf' hf6 hct hM7 hx6 hm6 hne hsh
      go_wp2_with fail
      refine (unhide hE _ (Below.refl _ _)).mono ?_
      rw [unhide d0]
      rintro e W7 ⟨rfl, hb7⟩
      have hbw7 := hide (below3 (unhide hbw6) hb7)
      obtain ⟨u0, u1, u2⟩ := (unhide hbx6).below hb7 hwn
      obtain ⟨v0, v1, v2⟩ := (unhide hby6).below hb7 hwm
      replace hb7 := hide hb7
      go_wp2_with fail
      refine (unhide hE1 _ (unhide hb7)).mono ?_
      rw [unhide d1]
      rintro e W8 ⟨rfl, hb8⟩
      have hb78 := (unhide hb7).trans (hb8.mono (unhide hb7).size)
      have hbw8 := hide (below3 (unhide hbw7) hb8)
      obtain ⟨u0, u1, u2⟩ := (unhide hbx6).below hb78 hwn
      obtain ⟨v0, v1, v2⟩ := (unhide hby6).below hb78 hwm
      clear hb8
      replace hb78 := hide hb78
      go_wp2_with fail
      refine (unhide hE2 _ (unhide hb78)).mono ?_
      rw [unhide d2]
      rintro e W9 ⟨rfl, hb9⟩
      have hbw9 := hide (below3 (unhide hbw8) hb9)
      clear hb9
      go_wp2
      go_ret
      exact ⟨rfl, unhide hbw9⟩
end Go.Proofs.YthnapcdanccohaaDoor

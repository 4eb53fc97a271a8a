/-
  The law NodeBuild.
-/
import Derived.Test.YthnapcdanccohaaDoorNdKinds
import Derived.Test.YthnapcdanccohaaDoorNdLaid
import Derived.Test.YthnapcdanccohaaDoorNdRowL
import Derived.Test.YthnapcdanccohaaDoorNdBegun
import Derived.Deep.DeepCutAuto
namespace Go.Proofs.YthnapcdanccohaaDoor
open Go.RowKit Go.Lib Go.Sort
set_option linter.unusedSimpArgs false
set_option linter.unusedVariables false
theorem cf_rEqN (us : Array Value) (W : World) : Sem.run Tryd.prog (callFunc 9 us) W = .ok (.enter 9 us) W := by kernel_rfl
/-- append(own, nodes...) in a region. -/
theorem oper_append_nodes {o : Oper} {act : Act} {w : World} {K : Act → World → Prop} {Q : Exit → Act → World → Prop} (s x : Operand)
    (ho : o.op = .call { callee := .builtin .append, args := #[s, x], argTypes := #[24, 24] })
    (base : Nat) (v : Value) (xs : List NV) (hs : act.eval s = v) (hown : OwnN w base v xs) (a : Option Addr) (n cap : Nat) (ys : List NV) (hx : act.eval x = .slice a n cap) (hB : HoldsC w a n ys) (hN : a = none → cap = 0)
    (h47 : xs.length + n ≤ 3000000) (hbase : base ≤ w.heap.size)
    (h : ∀ v' w', OwnN w' base v' (xs ++ ys) → w.grownBy w' v.ownBlock → K (act.put o.dst v') w') : o.wp Tryd.prog act w K Q := by
  obtain ⟨v', w', hr, h2, h5⟩ := run_append_nodes w base o.type v xs hown a n cap ys hB hN h47 hbase
  unfold Oper.wp execOp
  simp only [ho, resolve, invoke, builtin, Sem.run_bind, Sem.run_pure, Result.andThen_ok, List.map_toArray, List.map_cons, List.map_nil, hs, hx, hr]
  exact h _ _ h2 h5
/-- Two nodes in a new block. -/
def two (xk xt : Int) (xc : F) (yk yt : Int) (yc : F) : F := .cons xk xt xc (.cons yk yt yc .nil)
theorem two_sl (w : World) (xk xt yk yt : Int) (a5 a6 : Option Addr) (n5 c5 n6 c6 : Nat) (xc yc : F) (hX : Sl w a5 n5 c5 xc) (hY : Sl w a6 n6 c6 yc) :
    Sl (w.alloc (.cells #[.int .i64 xk, .int .i64 xt, .slice a5 n5 c5, .int .i64 yk, .int .i64 yt, .slice a6 n6 c6] 26 (0, 0))) (some ⟨w.heap.size, 0, none⟩) 2 2 (two xk xt xc yk yt yc) := by
  have hc : ∀ j u, (#[Value.int .i64 xk, .int .i64 xt, .slice a5 n5 c5, .int .i64 yk, .int .i64 yt, .slice a6 n6 c6] : Array Value)[j]? = some u → (w.alloc (.cells #[.int .i64 xk, .int .i64 xt, .slice a5 n5 c5, .int .i64 yk, .int .i64 yt, .slice a6 n6 c6] 26 (0, 0))).cell? ⟨w.heap.size, 0 + j, none⟩ = some u := fun j u hj => by
    rw [Nat.zero_add, World.cell?_alloc_mark]
    exact hj
  exact ⟨rfl, ⟨Nat.le_refl _, fun h => by cases h⟩, by unfold maxLen; omega, fun _ => ⟨w.heap.size, 0, rfl, ⟨trivial, _, _, heap_alloc_new w _⟩,
    hc 0 _ rfl, hc 1 _ rfl, ⟨a5, n5, c5, hc 2 _ rfl, hX.below (below_alloc _ _)⟩,
    hc 3 _ rfl, hc 4 _ rfl, ⟨a6, n6, c6, hc 5 _ rfl, hY.below (below_alloc _ _)⟩, trivial⟩⟩
theorem vl_two (A : Int → Bool) (xk xt : Int) (xc : F) (yk yt : Int) (yc : F) : vl A (two xk xt xc yk yt yc) = vlN A ⟨xk, xt, xc⟩ ++ vlN A ⟨yk, yt, yc⟩ := by
  simp [two, vl, vlN]
theorem filter_size (p : Nd → Bool) : ∀ L : List Nd, (F.ofL (L.filter p)).size ≤ (F.ofL L).size
  | [] => Nat.le_refl _
  | x :: L => by
    have ih := filter_size p L
    rw [List.filter_cons]
    split
    · simp only [F.ofL, F.size]; omega
    · simp only [F.ofL, F.size]; omega
theorem vlN_size2 (A : Int → Bool) (n : Nd) (h : n.c.size ≤ 82) : (F.ofL (vlN A n)).size ≤ 100000 := by
  have h1 := vl_size A n.c
  have h2 : n.c.size * (n.c.size + 1) ≤ 82 * 83 := Nat.mul_le_mul h (by omega)
  have e : (F.ofL (vlN A n)).size = n.c.size + 1 + (F.ofL (if A n.k then vl A n.c else [])).size := rfl
  rw [e]
  split
  · omega
  · simp only [F.ofL, F.size]; omega
set_option maxHeartbeats 8000000 in
set_option maxRecDepth 100000 in
theorem nodeBuild_shell (a0 : Option Addr) (len0 cap0 : Nat) (z0 : List Int) (a1 : Option Addr) (len1 cap1 : Nat) (z1 : List Int) (a2 : Int) (a3 : Int) (w : World) (w0 : IsRow .i64 w a0 len0 cap0 z0) (w1 : IsRow .i64 w a1 len1 cap1 z1) (w2 : (Lit.int .i64 a2).wf = true) (w3 : (Lit.int .i64 a3).wf = true) (hT : Tab w) :
    Calls Tryd.prog 5 #[.slice a0 len0 cap0, .slice a1 len1 cap1, .int .i64 a2, .int .i64 a3] w fun e w' => e = .returned (.bool true) ∧ Below w.heap.size w w' := by
  have HB := hide (fun W (h : Tab W) => nlBegun_any W h)
  have H0 := hide (fun W (hW : Below w.heap.size w W) => row_tree w0 W hW)
  have H1 := hide (fun W (hW : Below w.heap.size w W) => row_tree w1 W hW)
  have hsx := treeN_size (z0.take len0)
  have hsy := treeN_size (z1.take len1)
  generalize treeN (z0.take len0) = X at *
  generalize treeN (z1.take len1) = Y at *
  obtain ⟨xk, xt, xc⟩ := X
  obtain ⟨yk, yt, yc⟩ := Y
  dsimp only at hsx hsy H0 H1
  have hFs : (F.ofL ((vlN allA ⟨a2, a3, two xk xt xc yk yt yc⟩).filter (fun x => decide (x.t = a3)))).size ≤ 100000 := by
    have h := vlN_size2 allA ⟨a2, a3, two xk xt xc yk yt yc⟩ (by simp only [two, F.size]; omega)
    exact Nat.le_trans (filter_size _ _) h
  clear w0 w1 w2 w3
  replace hT := hide hT
  go_enter Tryd.func5, Tryd.ntmps5
  go_wp2_with fail
  refine (unhide HB _ (unhide hT)).mono ?_
  rintro e W0 ⟨rfl, hb⟩
  have hbW0 : Below w.heap.size w W0 := hb
  clear HB hb hT
  replace hbW0 := hide hbW0
  go_wp2_with fail
  refine (unhide H0 _ (unhide hbW0)).mono ?_
  rintro e W1 ⟨a5, n5, c5, rfl, hX1, hb⟩
  have hbW1 := below3 (unhide hbW0) hb
  clear H0 hb hbW0
  replace hbW1 := hide hbW1
  replace hX1 := hide hX1.any
  go_wp2_with fail
  refine (unhide H1 _ (unhide hbW1)).mono ?_
  rintro e W2 ⟨a6, n6, c6, rfl, hY2, hb⟩
  have hbW2 := below3 (unhide hbW1) hb
  have hX2 := (unhide hX1).below hb
  replace hY2 := hY2.any
  clear H1 hb hbW1 hX1
  have n0 := nblk_new W2 0 0 none 0 0
  have n1 := nblk_new (W2.alloc (.cells #[.int .i64 0, .int .i64 0, .slice none 0 0] 26 (0, 0))) 0 0 none 0 0
  replace hbW2 := hide hbW2
  replace hX2 := hide hX2
  replace hY2 := hide hY2
  replace n0 := hide n0
  replace n1 := hide n1
  go_upto_region 6 with fail
  have bx : BoxN ((((W2.alloc (.cells #[.int .i64 xk, .int .i64 xt, .slice a5 n5 c5] 26 (0, 0))).alloc (.cells #[.int .i64 yk, .int .i64 yt, .slice a6 n6 c6] 26 (0, 0))).alloc (.cells #[.int .i64 xk, .int .i64 xt, .slice a5 n5 c5, .int .i64 yk, .int .i64 yt, .slice a6 n6 c6] 26 (0, 0))).alloc (.cells #[.int .i64 a2, .int .i64 a3, .slice (some ⟨W2.heap.size + 1 + 1, 0, none⟩) 2 2] 26 (0, 0))) W2.heap.size xk xt a5 n5 c5 := (boxN_new W2 xk xt a5 n5 c5).below (below3 (below3 (below_alloc _ _) (below_alloc _ _)) (below_alloc _ _)) (by simp)
  have by2 : BoxN ((((W2.alloc (.cells #[.int .i64 xk, .int .i64 xt, .slice a5 n5 c5] 26 (0, 0))).alloc (.cells #[.int .i64 yk, .int .i64 yt, .slice a6 n6 c6] 26 (0, 0))).alloc (.cells #[.int .i64 xk, .int .i64 xt, .slice a5 n5 c5, .int .i64 yk, .int .i64 yt, .slice a6 n6 c6] 26 (0, 0))).alloc (.cells #[.int .i64 a2, .int .i64 a3, .slice (some ⟨W2.heap.size + 1 + 1, 0, none⟩) 2 2] 26 (0, 0))) (W2.heap.size + 1) yk yt a6 n6 c6 := by
    have := (boxN_new (W2.alloc (.cells #[.int .i64 xk, .int .i64 xt, .slice a5 n5 c5] 26 (0, 0))) yk yt a6 n6 c6).below (below3 (below_alloc ((W2.alloc (.cells #[.int .i64 xk, .int .i64 xt, .slice a5 n5 c5] 26 (0, 0))).alloc (.cells #[.int .i64 yk, .int .i64 yt, .slice a6 n6 c6] 26 (0, 0))) (.cells #[.int .i64 xk, .int .i64 xt, .slice a5 n5 c5, .int .i64 yk, .int .i64 yt, .slice a6 n6 c6] 26 (0, 0))) (below_alloc _ (.cells #[.int .i64 a2, .int .i64 a3, .slice (some ⟨W2.heap.size + 1 + 1, 0, none⟩) 2 2] 26 (0, 0)))) (by simp)
    simpa using this
  have bt : BoxN ((((W2.alloc (.cells #[.int .i64 xk, .int .i64 xt, .slice a5 n5 c5] 26 (0, 0))).alloc (.cells #[.int .i64 yk, .int .i64 yt, .slice a6 n6 c6] 26 (0, 0))).alloc (.cells #[.int .i64 xk, .int .i64 xt, .slice a5 n5 c5, .int .i64 yk, .int .i64 yt, .slice a6 n6 c6] 26 (0, 0))).alloc (.cells #[.int .i64 a2, .int .i64 a3, .slice (some ⟨W2.heap.size + 1 + 1, 0, none⟩) 2 2] 26 (0, 0))) (W2.heap.size + 1 + 1 + 1) a2 a3 (some ⟨W2.heap.size + 1 + 1, 0, none⟩) 2 2 := by
    have := boxN_new (((W2.alloc (.cells #[.int .i64 xk, .int .i64 xt, .slice a5 n5 c5] 26 (0, 0))).alloc (.cells #[.int .i64 yk, .int .i64 yt, .slice a6 n6 c6] 26 (0, 0))).alloc (.cells #[.int .i64 xk, .int .i64 xt, .slice a5 n5 c5, .int .i64 yk, .int .i64 yt, .slice a6 n6 c6] 26 (0, 0))) a2 a3 (some ⟨W2.heap.size + 1 + 1, 0, none⟩) 2 2
    simpa using this
  have hb2 : Below W2.heap.size W2 ((W2.alloc (.cells #[.int .i64 xk, .int .i64 xt, .slice a5 n5 c5] 26 (0, 0))).alloc (.cells #[.int .i64 yk, .int .i64 yt, .slice a6 n6 c6] 26 (0, 0))) := below3 (below_alloc _ _) (below_alloc _ _)
  have hX := (unhide hX2).below hb2
  have hY := (unhide hY2).below hb2
  have hTw := two_sl ((W2.alloc (.cells #[.int .i64 xk, .int .i64 xt, .slice a5 n5 c5] 26 (0, 0))).alloc (.cells #[.int .i64 yk, .int .i64 yt, .slice a6 n6 c6] 26 (0, 0))) xk xt yk yt a5 a6 n5 c5 n6 c6 xc yc hX hY
  have hz2 : ((W2.alloc (.cells #[.int .i64 xk, .int .i64 xt, .slice a5 n5 c5] 26 (0, 0))).alloc (.cells #[.int .i64 yk, .int .i64 yt, .slice a6 n6 c6] 26 (0, 0))).heap.size = W2.heap.size + 1 + 1 := by simp
  rw [hz2] at hTw
  have hb24 : Below ((W2.alloc (.cells #[.int .i64 xk, .int .i64 xt, .slice a5 n5 c5] 26 (0, 0))).alloc (.cells #[.int .i64 yk, .int .i64 yt, .slice a6 n6 c6] 26 (0, 0))).heap.size ((W2.alloc (.cells #[.int .i64 xk, .int .i64 xt, .slice a5 n5 c5] 26 (0, 0))).alloc (.cells #[.int .i64 yk, .int .i64 yt, .slice a6 n6 c6] 26 (0, 0))) ((((W2.alloc (.cells #[.int .i64 xk, .int .i64 xt, .slice a5 n5 c5] 26 (0, 0))).alloc (.cells #[.int .i64 yk, .int .i64 yt, .slice a6 n6 c6] 26 (0, 0))).alloc (.cells #[.int .i64 xk, .int .i64 xt, .slice a5 n5 c5, .int .i64 yk, .int .i64 yt, .slice a6 n6 c6] 26 (0, 0))).alloc (.cells #[.int .i64 a2, .int .i64 a3, .slice (some ⟨W2.heap.size + 1 + 1, 0, none⟩) 2 2] 26 (0, 0))) := below3 (below_alloc _ _) (below_alloc _ _)
  have hz3 : (((W2.alloc (.cells #[.int .i64 xk, .int .i64 xt, .slice a5 n5 c5] 26 (0, 0))).alloc (.cells #[.int .i64 yk, .int .i64 yt, .slice a6 n6 c6] 26 (0, 0))).alloc (.cells #[.int .i64 xk, .int .i64 xt, .slice a5 n5 c5, .int .i64 yk, .int .i64 yt, .slice a6 n6 c6] 26 (0, 0))).heap.size = W2.heap.size + 1 + 1 + 1 := by simp
  replace hTw := hTw.below (below_alloc (((W2.alloc (.cells #[.int .i64 xk, .int .i64 xt, .slice a5 n5 c5] 26 (0, 0))).alloc (.cells #[.int .i64 yk, .int .i64 yt, .slice a6 n6 c6] 26 (0, 0))).alloc (.cells #[.int .i64 xk, .int .i64 xt, .slice a5 n5 c5, .int .i64 yk, .int .i64 yt, .slice a6 n6 c6] 26 (0, 0))) (.cells #[.int .i64 a2, .int .i64 a3, .slice (some ⟨W2.heap.size + 1 + 1, 0, none⟩) 2 2] 26 (0, 0)))
  replace hX := hX.below hb24
  replace hY := hY.below hb24
  have hbw := below3 (unhide hbW2) (below3 hb2 hb24)
  have lgn : W2.heap.size < ((((W2.alloc (.cells #[.int .i64 xk, .int .i64 xt, .slice a5 n5 c5] 26 (0, 0))).alloc (.cells #[.int .i64 yk, .int .i64 yt, .slice a6 n6 c6] 26 (0, 0))).alloc (.cells #[.int .i64 xk, .int .i64 xt, .slice a5 n5 c5, .int .i64 yk, .int .i64 yt, .slice a6 n6 c6] 26 (0, 0))).alloc (.cells #[.int .i64 a2, .int .i64 a3, .slice (some ⟨W2.heap.size + 1 + 1, 0, none⟩) 2 2] 26 (0, 0))).heap.size := by simp; try omega
  have lgm : W2.heap.size + 1 < ((((W2.alloc (.cells #[.int .i64 xk, .int .i64 xt, .slice a5 n5 c5] 26 (0, 0))).alloc (.cells #[.int .i64 yk, .int .i64 yt, .slice a6 n6 c6] 26 (0, 0))).alloc (.cells #[.int .i64 xk, .int .i64 xt, .slice a5 n5 c5, .int .i64 yk, .int .i64 yt, .slice a6 n6 c6] 26 (0, 0))).alloc (.cells #[.int .i64 a2, .int .i64 a3, .slice (some ⟨W2.heap.size + 1 + 1, 0, none⟩) 2 2] 26 (0, 0))).heap.size := by simp; try omega
  have lgt : W2.heap.size + 1 + 1 + 1 < ((((W2.alloc (.cells #[.int .i64 xk, .int .i64 xt, .slice a5 n5 c5] 26 (0, 0))).alloc (.cells #[.int .i64 yk, .int .i64 yt, .slice a6 n6 c6] 26 (0, 0))).alloc (.cells #[.int .i64 xk, .int .i64 xt, .slice a5 n5 c5, .int .i64 yk, .int .i64 yt, .slice a6 n6 c6] 26 (0, 0))).alloc (.cells #[.int .i64 a2, .int .i64 a3, .slice (some ⟨W2.heap.size + 1 + 1, 0, none⟩) 2 2] 26 (0, 0))).heap.size := by simp
  clear hX2 hY2 hbW2 hb2 hb24 hz2 hz3 n0 n1
  generalize ((((W2.alloc (.cells #[.int .i64 xk, .int .i64 xt, .slice a5 n5 c5] 26 (0, 0))).alloc (.cells #[.int .i64 yk, .int .i64 yt, .slice a6 n6 c6] 26 (0, 0))).alloc (.cells #[.int .i64 xk, .int .i64 xt, .slice a5 n5 c5, .int .i64 yk, .int .i64 yt, .slice a6 n6 c6] 26 (0, 0))).alloc (.cells #[.int .i64 a2, .int .i64 a3, .slice (some ⟨W2.heap.size + 1 + 1, 0, none⟩) 2 2] 26 (0, 0))) = W3 at *
  obtain ⟨gk, hgk⟩ : ∃ gk, W2.heap.size + 1 + 1 = gk := ⟨_, rfl⟩
  obtain ⟨gt, hgt⟩ : ∃ gt, W2.heap.size + 1 + 1 + 1 = gt := ⟨_, rfl⟩
  obtain ⟨gm, hgm⟩ : ∃ gm, W2.heap.size + 1 = gm := ⟨_, rfl⟩
  rw [hgt] at bt lgt
  rw [hgk] at bt hTw
  rw [hgm] at by2 lgm
  simp only [hgt]
  simp only [hgk]
  simp only [hgm]
  generalize W2.heap.size = gn at *
  clear hgk hgt hgm
  have hts : (two xk xt xc yk yt yc).size ≤ 100 := by simp only [two, F.size]; omega
  obtain ⟨nx, hnx⟩ : ∃ nx, (⟨xk, xt, xc⟩ : Nd).size = nx := ⟨_, rfl⟩
  obtain ⟨ny, hny⟩ : ∃ ny, (⟨yk, yt, yc⟩ : Nd).size = ny := ⟨_, rfl⟩
  have hnt : (⟨a2, a3, two xk xt xc yk yt yc⟩ : Nd).size = nx + ny + 1 := by rw [← hnx, ← hny]; simp only [two, Nd.size, F.size]; try omega
  obtain ⟨dx, hdx⟩ : ∃ dx, (⟨xk, xt, xc⟩ : Nd).deep = dx := ⟨_, rfl⟩
  obtain ⟨dy, hdy⟩ : ∃ dy, (⟨yk, yt, yc⟩ : Nd).deep = dy := ⟨_, rfl⟩
  have hdt : (⟨a2, a3, two xk xt xc yk yt yc⟩ : Nd).deep = max dx dy + 1 := by rw [← hdx, ← hdy]; simp only [two, Nd.deep, F.deep]; omega
  have hnx1 : nx ≤ 41 := by rw [← hnx]; simp only [Nd.size]; omega
  have hny1 : ny ≤ 41 := by rw [← hny]; simp only [Nd.size]; omega
  have hdx1 : dx ≤ 41 := by rw [← hdx]; have := xc.deep_le_size; simp only [Nd.deep]; omega
  have hdy1 : dy ≤ 41 := by rw [← hdy]; have := yc.deep_le_size; simp only [Nd.deep]; omega
  replace hbw := hide hbw
  replace hnx := hide hnx
  replace hny := hide hny
  replace hnt := hide hnt
  replace hdx := hide hdx
  replace hdy := hide hdy
  replace hdt := hide hdt
  have hS : RowKit.Below W3.heap.size W3 W3.drew := (RowKit.Below.refl _ _).drew
  refine wp_region_held_drew (S := fun w' => RowKit.Below W3.heap.size W3 w') (by kernel_rfl) hS (fun _ => ?_)
  generalize World.drew W3 = WD at hS ⊢
  refine wpAnyH_take (i := 0) (v := .agg #[.int .i64 a2, .int .i64 a3, .slice (some ⟨gk, 0, none⟩) 2 2]) rfl (by kernel_rfl) (by kernel_rfl) (by kernel_rfl) (fun _ _ _ h => h) (Or.inl ⟨by kernel_rfl, ?_⟩) hS ?_
  · intro w hSw
    have e0 := (hSw.cell (p := ⟨gt, 0, none⟩) lgt).trans bt.1
    have e1 := (hSw.cell (p := ⟨gt, 1, none⟩) lgt).trans bt.2.1
    have e2 := (hSw.cell (p := ⟨gt, 2, none⟩) lgt).trans bt.2.2
    clear bx by2 bt
    go_simp
  try simp only [List.getElem_toArray, List.getElem_cons_succ, List.getElem_cons_zero, Act.put, List.setIfInBounds_toArray, List.set_cons_zero, List.set_cons_succ]
  refine wpAnyH_take (i := 2) (v := .agg #[.int .i64 xk, .int .i64 xt, .slice a5 n5 c5]) rfl (by kernel_rfl) (by kernel_rfl) (by kernel_rfl) (fun _ _ _ h => h) (Or.inl ⟨by kernel_rfl, ?_⟩) hS ?_
  · intro w hSw
    have e0 := (hSw.cell (p := ⟨gn, 0, none⟩) lgn).trans bx.1
    have e1 := (hSw.cell (p := ⟨gn, 1, none⟩) lgn).trans bx.2.1
    have e2 := (hSw.cell (p := ⟨gn, 2, none⟩) lgn).trans bx.2.2
    clear bx by2 bt
    go_simp
  try simp only [List.getElem_toArray, List.getElem_cons_succ, List.getElem_cons_zero, Act.put, List.setIfInBounds_toArray, List.set_cons_zero, List.set_cons_succ]
  refine wpAnyH_take (i := 4) (v := .agg #[.int .i64 yk, .int .i64 yt, .slice a6 n6 c6]) rfl (by kernel_rfl) (by kernel_rfl) (by kernel_rfl) (fun _ _ _ h => h) (Or.inl ⟨by kernel_rfl, ?_⟩) hS ?_
  · intro w hSw
    have e0 := (hSw.cell (p := ⟨gm, 0, none⟩) lgm).trans by2.1
    have e1 := (hSw.cell (p := ⟨gm, 1, none⟩) lgm).trans by2.2.1
    have e2 := (hSw.cell (p := ⟨gm, 2, none⟩) lgm).trans by2.2.2
    clear bx by2 bt
    go_simp
  try simp only [List.getElem_toArray, List.getElem_cons_succ, List.getElem_cons_zero, Act.put, List.setIfInBounds_toArray, List.set_cons_zero, List.set_cons_succ]
  refine wpAnyH_ready (rs := [1]) (by kernel_rfl) (by decide) ?_
  refine AllReadyH.cons rfl (fun K' hK => ?_) AllReadyH.nil
  rw [if_pos (by kernel_rfl)]
  refine oper_call (run_call1 cf_ndCount) ((ndCount_any a2 a3 _ 2 2 (two xk xt xc yk yt yc) WD (hTw.below hS) (by omega)).mono ?_)
  rintro e WX ⟨rfl, hbX⟩
  rw [unhide hnt]
  have hS' : RowKit.Below W3.heap.size W3 WX := hS.trans (hbX.mono hS.size)
  refine ⟨_, rfl, hK.out _ _ hS' (fun _ => ?_)⟩
  clear hK K' hS
  have hS := hS'
  clear hS'
  generalize WX = WD at *
  try simp only [List.getElem_toArray, List.getElem_cons_succ, List.getElem_cons_zero, Act.put, List.setIfInBounds_toArray, List.set_cons_zero, List.set_cons_succ]
  refine wpAnyH_ready (rs := [3]) (by kernel_rfl) (by decide) ?_
  refine AllReadyH.cons rfl (fun K' hK => ?_) AllReadyH.nil
  rw [if_pos (by kernel_rfl)]
  refine oper_call (run_call1 cf_ndCount) ((ndCount_any xk xt a5 n5 c5 xc WD (hX.below hS) (by omega)).mono ?_)
  rintro e WX ⟨rfl, hbX⟩
  rw [unhide hnx]
  have hS' : RowKit.Below W3.heap.size W3 WX := hS.trans (hbX.mono hS.size)
  refine ⟨_, rfl, hK.out _ _ hS' (fun _ => ?_)⟩
  clear hK K' hS
  have hS := hS'
  clear hS'
  generalize WX = WD at *
  try simp only [List.getElem_toArray, List.getElem_cons_succ, List.getElem_cons_zero, Act.put, List.setIfInBounds_toArray, List.set_cons_zero, List.set_cons_succ]
  refine wpAnyH_ready (rs := [5]) (by kernel_rfl) (by decide) ?_
  refine AllReadyH.cons rfl (fun K' hK => ?_) AllReadyH.nil
  rw [if_pos (by kernel_rfl)]
  refine oper_call (run_call1 cf_ndCount) ((ndCount_any yk yt a6 n6 c6 yc WD (hY.below hS) (by omega)).mono ?_)
  rintro e WX ⟨rfl, hbX⟩
  rw [unhide hny]
  have hS' : RowKit.Below W3.heap.size W3 WX := hS.trans (hbX.mono hS.size)
  refine ⟨_, rfl, hK.out _ _ hS' (fun _ => ?_)⟩
  clear hK K' hS
  have hS := hS'
  clear hS'
  generalize WX = WD at *
  try simp only [List.getElem_toArray, List.getElem_cons_succ, List.getElem_cons_zero, Act.put, List.setIfInBounds_toArray, List.set_cons_zero, List.set_cons_succ]
  refine wpAnyH_take (i := 6) (v := .int .i64 ((nx + ny : Nat) : Int)) rfl (by kernel_rfl) (by kernel_rfl) (by kernel_rfl) (fun _ _ _ h => h) (Or.inl ⟨by kernel_rfl, ?_⟩) hS ?_
  · intro w hSw
    go_simp
    try (first | rfl | (congr 3; first | rfl | (rw [IntKind.wrap_i64]; omega)))
  try simp only [List.getElem_toArray, List.getElem_cons_succ, List.getElem_cons_zero, Act.put, List.setIfInBounds_toArray, List.set_cons_zero, List.set_cons_succ]
  refine wpAnyH_take (i := 7) (v := .int .i64 ((nx + ny + 1 : Nat) : Int)) rfl (by kernel_rfl) (by kernel_rfl) (by kernel_rfl) (fun _ _ _ h => h) (Or.inl ⟨by kernel_rfl, ?_⟩) hS ?_
  · intro w hSw
    go_simp
    try (first | rfl | (congr 3; first | rfl | (rw [IntKind.wrap_i64]; omega)))
  try simp only [List.getElem_toArray, List.getElem_cons_succ, List.getElem_cons_zero, Act.put, List.setIfInBounds_toArray, List.set_cons_zero, List.set_cons_succ]
  refine wpAnyH_take (i := 8) (v := .bool false) rfl (by kernel_rfl) (by kernel_rfl) (by kernel_rfl) (fun _ _ _ h => h) (Or.inl ⟨by kernel_rfl, ?_⟩) hS ?_
  · intro w hSw
    go_simp
  try simp only [List.getElem_toArray, List.getElem_cons_succ, List.getElem_cons_zero, Act.put, List.setIfInBounds_toArray, List.set_cons_zero, List.set_cons_succ]
  refine wpAnyH_take (i := 9) (v := .bool false) rfl (by kernel_rfl) (by kernel_rfl) (by kernel_rfl) (fun _ _ _ h => h) (Or.inl ⟨by kernel_rfl, ?_⟩) hS ?_
  · intro w hSw
    go_simp
  try simp only [List.getElem_toArray, List.getElem_cons_succ, List.getElem_cons_zero, Act.put, List.setIfInBounds_toArray, List.set_cons_zero, List.set_cons_succ]
  refine wpAnyH_take (i := 10) (v := .agg #[.int .i64 a2, .int .i64 a3, .slice (some ⟨gk, 0, none⟩) 2 2]) rfl (by kernel_rfl) (by kernel_rfl) (by kernel_rfl) (fun _ _ _ h => h) (Or.inl ⟨by kernel_rfl, ?_⟩) hS ?_
  · intro w hSw
    have e0 := (hSw.cell (p := ⟨gt, 0, none⟩) lgt).trans bt.1
    have e1 := (hSw.cell (p := ⟨gt, 1, none⟩) lgt).trans bt.2.1
    have e2 := (hSw.cell (p := ⟨gt, 2, none⟩) lgt).trans bt.2.2
    clear bx by2 bt
    go_simp
  try simp only [List.getElem_toArray, List.getElem_cons_succ, List.getElem_cons_zero, Act.put, List.setIfInBounds_toArray, List.set_cons_zero, List.set_cons_succ]
  refine wpAnyH_take (i := 12) (v := .agg #[.int .i64 xk, .int .i64 xt, .slice a5 n5 c5]) rfl (by kernel_rfl) (by kernel_rfl) (by kernel_rfl) (fun _ _ _ h => h) (Or.inl ⟨by kernel_rfl, ?_⟩) hS ?_
  · intro w hSw
    have e0 := (hSw.cell (p := ⟨gn, 0, none⟩) lgn).trans bx.1
    have e1 := (hSw.cell (p := ⟨gn, 1, none⟩) lgn).trans bx.2.1
    have e2 := (hSw.cell (p := ⟨gn, 2, none⟩) lgn).trans bx.2.2
    clear bx by2 bt
    go_simp
  try simp only [List.getElem_toArray, List.getElem_cons_succ, List.getElem_cons_zero, Act.put, List.setIfInBounds_toArray, List.set_cons_zero, List.set_cons_succ]
  refine wpAnyH_take (i := 14) (v := .agg #[.int .i64 yk, .int .i64 yt, .slice a6 n6 c6]) rfl (by kernel_rfl) (by kernel_rfl) (by kernel_rfl) (fun _ _ _ h => h) (Or.inl ⟨by kernel_rfl, ?_⟩) hS ?_
  · intro w hSw
    have e0 := (hSw.cell (p := ⟨gm, 0, none⟩) lgm).trans by2.1
    have e1 := (hSw.cell (p := ⟨gm, 1, none⟩) lgm).trans by2.2.1
    have e2 := (hSw.cell (p := ⟨gm, 2, none⟩) lgm).trans by2.2.2
    clear bx by2 bt
    go_simp
  try simp only [List.getElem_toArray, List.getElem_cons_succ, List.getElem_cons_zero, Act.put, List.setIfInBounds_toArray, List.set_cons_zero, List.set_cons_succ]
  refine wpAnyH_ready (rs := [11]) (by kernel_rfl) (by decide) ?_
  refine AllReadyH.cons rfl (fun K' hK => ?_) AllReadyH.nil
  rw [if_pos (by kernel_rfl)]
  refine oper_call (run_call1 cf_ndDeep) ((ndDeep_any a2 a3 _ 2 2 (two xk xt xc yk yt yc) WD (hTw.below hS) (by omega)).mono ?_)
  rintro e WX ⟨rfl, hbX⟩
  rw [unhide hdt]
  have hS' : RowKit.Below W3.heap.size W3 WX := hS.trans (hbX.mono hS.size)
  refine ⟨_, rfl, hK.out _ _ hS' (fun _ => ?_)⟩
  clear hK K' hS
  have hS := hS'
  clear hS'
  generalize WX = WD at *
  try simp only [List.getElem_toArray, List.getElem_cons_succ, List.getElem_cons_zero, Act.put, List.setIfInBounds_toArray, List.set_cons_zero, List.set_cons_succ]
  refine wpAnyH_ready (rs := [13]) (by kernel_rfl) (by decide) ?_
  refine AllReadyH.cons rfl (fun K' hK => ?_) AllReadyH.nil
  rw [if_pos (by kernel_rfl)]
  refine oper_call (run_call1 cf_ndDeep) ((ndDeep_any xk xt a5 n5 c5 xc WD (hX.below hS) (by omega)).mono ?_)
  rintro e WX ⟨rfl, hbX⟩
  rw [unhide hdx]
  have hS' : RowKit.Below W3.heap.size W3 WX := hS.trans (hbX.mono hS.size)
  refine ⟨_, rfl, hK.out _ _ hS' (fun _ => ?_)⟩
  clear hK K' hS
  have hS := hS'
  clear hS'
  generalize WX = WD at *
  try simp only [List.getElem_toArray, List.getElem_cons_succ, List.getElem_cons_zero, Act.put, List.setIfInBounds_toArray, List.set_cons_zero, List.set_cons_succ]
  refine wpAnyH_ready (rs := [15]) (by kernel_rfl) (by decide) ?_
  refine AllReadyH.cons rfl (fun K' hK => ?_) AllReadyH.nil
  rw [if_pos (by kernel_rfl)]
  refine oper_call (run_call1 cf_ndDeep) ((ndDeep_any yk yt a6 n6 c6 yc WD (hY.below hS) (by omega)).mono ?_)
  rintro e WX ⟨rfl, hbX⟩
  rw [unhide hdy]
  have hS' : RowKit.Below W3.heap.size W3 WX := hS.trans (hbX.mono hS.size)
  refine ⟨_, rfl, hK.out _ _ hS' (fun _ => ?_)⟩
  clear hK K' hS
  have hS := hS'
  clear hS'
  generalize WX = WD at *
  try simp only [List.getElem_toArray, List.getElem_cons_succ, List.getElem_cons_zero, Act.put, List.setIfInBounds_toArray, List.set_cons_zero, List.set_cons_succ]
  refine wpAnyH_take (i := 16) (v := .int .i64 ((max dx dy : Nat) : Int)) rfl (by kernel_rfl) (by kernel_rfl) (by kernel_rfl) (fun _ _ _ h => h) (Or.inl ⟨by kernel_rfl, ?_⟩) hS ?_
  · intro w hSw
    go_simp
    try (first | rfl | (congr 3; omega))
  try simp only [List.getElem_toArray, List.getElem_cons_succ, List.getElem_cons_zero, Act.put, List.setIfInBounds_toArray, List.set_cons_zero, List.set_cons_succ]
  refine wpAnyH_take (i := 17) (v := .int .i64 ((max dx dy + 1 : Nat) : Int)) rfl (by kernel_rfl) (by kernel_rfl) (by kernel_rfl) (fun _ _ _ h => h) (Or.inl ⟨by kernel_rfl, ?_⟩) hS ?_
  · intro w hSw
    go_simp
    try (first | rfl | (congr 3; first | rfl | (rw [IntKind.wrap_i64]; omega)))
  try simp only [List.getElem_toArray, List.getElem_cons_succ, List.getElem_cons_zero, Act.put, List.setIfInBounds_toArray, List.set_cons_zero, List.set_cons_succ]
  refine wpAnyH_take (i := 18) (v := .bool false) rfl (by kernel_rfl) (by kernel_rfl) (by kernel_rfl) (fun _ _ _ h => h) (Or.inl ⟨by kernel_rfl, ?_⟩) hS ?_
  · intro w hSw
    go_simp
  try simp only [List.getElem_toArray, List.getElem_cons_succ, List.getElem_cons_zero, Act.put, List.setIfInBounds_toArray, List.set_cons_zero, List.set_cons_succ]
  refine wpAnyH_ready (rs := [19]) (by kernel_rfl) (by decide) ?_
  refine AllReadyH.cons rfl (fun K' hK => ?_) AllReadyH.nil
  rw [if_pos (by kernel_rfl)]
  refine oper_of_run (v := .bool false) (w' := WD) (rfl) ?_
  refine hK.out _ _ hS (fun _ => ?_)
  clear hK K'
  try simp only [List.getElem_toArray, List.getElem_cons_succ, List.getElem_cons_zero, Act.put, List.setIfInBounds_toArray, List.set_cons_zero, List.set_cons_succ]
  refine wpAnyH_done (by kernel_rfl) ?_ _
  have hbw5 := (unhide hbw).trans (hS.mono (unhide hbw).size)
  replace hX := hX.below hS
  replace hY := hY.below hS
  replace hTw := hTw.below hS
  replace bx := bx.below hS lgn
  replace by2 := by2.below hS lgm
  replace bt := bt.below hS lgt
  replace lgn := Nat.lt_of_lt_of_le lgn hS.size
  replace lgm := Nat.lt_of_lt_of_le lgm hS.size
  replace lgt := Nat.lt_of_lt_of_le lgt hS.size
  clear hbw hS hnx hny hnt hdx hdy hdt
  replace hbw5 := hide hbw5
  go_upto_region 8 with fail
  generalize WD = W5 at *
  have hLl : ∀ L1 : List Nd, L1 = ((visN allA ⟨xk, xt, xc⟩).map (·.1)).filter (fun x => decide (x.t = a3)) → L1.length ≤ 1000 := fun L1 h => by
    rw [h, visN_fst]
    have h1 := List.length_filter_le (fun x : Nd => decide (x.t = a3)) (vlN allA ⟨xk, xt, xc⟩)
    have h2 := vlN_len allA ⟨xk, xt, xc⟩
    dsimp only at h2
    omega
  have hLl2 : ∀ L1 : List Nd, L1 = ((visN allA ⟨yk, yt, yc⟩).map (·.1)).filter (fun x => decide (x.t = a3)) → L1.length ≤ 1000 := fun L1 h => by
    rw [h, visN_fst]
    have h1 := List.length_filter_le (fun x : Nd => decide (x.t = a3)) (vlN allA ⟨yk, yt, yc⟩)
    have h2 := vlN_len allA ⟨yk, yt, yc⟩
    dsimp only at h2
    omega
  go_cut [13] (fun s13 wx => ∃ (av : Option Addr) (cv m : Nat) (L1 L2 : List Nd), s13 = .slice av m cv ∧ (([(⟨a2, a3, two xk xt xc yk yt yc⟩ : Nd)] ++ L1) ++ L2).length = m ∧ L1 = ((visN allA ⟨xk, xt, xc⟩).map (·.1)).filter (fun x => decide (x.t = a3)) ∧ L2 = ((visN allA ⟨yk, yt, yc⟩).map (·.1)).filter (fun x => decide (x.t = a3)) ∧
    Sl wx av m cv (F.ofL (([(⟨a2, a3, two xk xt xc yk yt yc⟩ : Nd)] ++ L1) ++ L2)) ∧ RowKit.Below W5.heap.size W5 wx)
  case first =>
   have hS : RowKit.Below W5.heap.size W5 W5.drew := (RowKit.Below.refl _ _).drew
   refine wp_region_held_drew (S := fun w' => RowKit.Below W5.heap.size W5 w') (by kernel_rfl) hS (fun _ => ?_)
   generalize World.drew W5 = WD at hS ⊢
   refine wpAnyH_take (i := 0) (v := .agg #[.int .i64 a2, .int .i64 a3, .slice (some ⟨gk, 0, none⟩) 2 2]) rfl (by kernel_rfl) (by kernel_rfl) (by kernel_rfl) (fun _ _ _ h => h) (Or.inl ⟨by kernel_rfl, ?_⟩) hS ?_
   · intro w hSw
     have e0 := (hSw.cell (p := ⟨gt, 0, none⟩) lgt).trans bt.1
     have e1 := (hSw.cell (p := ⟨gt, 1, none⟩) lgt).trans bt.2.1
     have e2 := (hSw.cell (p := ⟨gt, 2, none⟩) lgt).trans bt.2.2
     clear bx by2 bt
     go_simp
   try simp only [List.getElem_toArray, List.getElem_cons_succ, List.getElem_cons_zero, Act.put, List.setIfInBounds_toArray, List.set_cons_zero, List.set_cons_succ]
   refine wpAnyH_take (i := 2) (v := .agg #[.int .i64 xk, .int .i64 xt, .slice a5 n5 c5]) rfl (by kernel_rfl) (by kernel_rfl) (by kernel_rfl) (fun _ _ _ h => h) (Or.inl ⟨by kernel_rfl, ?_⟩) hS ?_
   · intro w hSw
     have e0 := (hSw.cell (p := ⟨gn, 0, none⟩) lgn).trans bx.1
     have e1 := (hSw.cell (p := ⟨gn, 1, none⟩) lgn).trans bx.2.1
     have e2 := (hSw.cell (p := ⟨gn, 2, none⟩) lgn).trans bx.2.2
     clear bx by2 bt
     go_simp
   try simp only [List.getElem_toArray, List.getElem_cons_succ, List.getElem_cons_zero, Act.put, List.setIfInBounds_toArray, List.set_cons_zero, List.set_cons_succ]
   refine wpAnyH_take (i := 3) (v := .int .i64 a3) rfl (by kernel_rfl) (by kernel_rfl) (by kernel_rfl) (fun _ _ _ h => h) (Or.inl ⟨by kernel_rfl, ?_⟩) hS ?_
   · intro w hSw
     go_simp
   try simp only [List.getElem_toArray, List.getElem_cons_succ, List.getElem_cons_zero, Act.put, List.setIfInBounds_toArray, List.set_cons_zero, List.set_cons_succ]
   refine wpAnyH_take (i := 6) (v := .agg #[.int .i64 yk, .int .i64 yt, .slice a6 n6 c6]) rfl (by kernel_rfl) (by kernel_rfl) (by kernel_rfl) (fun _ _ _ h => h) (Or.inl ⟨by kernel_rfl, ?_⟩) hS ?_
   · intro w hSw
     have e0 := (hSw.cell (p := ⟨gm, 0, none⟩) lgm).trans by2.1
     have e1 := (hSw.cell (p := ⟨gm, 1, none⟩) lgm).trans by2.2.1
     have e2 := (hSw.cell (p := ⟨gm, 2, none⟩) lgm).trans by2.2.2
     clear bx by2 bt
     go_simp
   try simp only [List.getElem_toArray, List.getElem_cons_succ, List.getElem_cons_zero, Act.put, List.setIfInBounds_toArray, List.set_cons_zero, List.set_cons_succ]
   refine wpAnyH_take (i := 7) (v := .int .i64 a3) rfl (by kernel_rfl) (by kernel_rfl) (by kernel_rfl) (fun _ _ _ h => h) (Or.inl ⟨by kernel_rfl, ?_⟩) hS ?_
   · intro w hSw
     go_simp
   try simp only [List.getElem_toArray, List.getElem_cons_succ, List.getElem_cons_zero, Act.put, List.setIfInBounds_toArray, List.set_cons_zero, List.set_cons_succ]
   refine wpAnyH_ready (rs := [1, 4]) (by kernel_rfl) (by decide) ?_
   refine AllReadyH.cons rfl (fun K' hK => ?_) (AllReadyH.cons rfl (fun K' hK => ?_) AllReadyH.nil)
   · rw [if_pos (by kernel_rfl)]
     refine oper_of_run (run_build_node WD _ _ _ _ _ _ _ a2 a3 (some ⟨gk, 0, none⟩) 2 2 rfl) ?_
     have hbz := below_alloc WD (.cells #[.int .i64 a2, .int .i64 a3, .slice (some ⟨gk, 0, none⟩) 2 2] 26 (0, 0))
     have hR := rowL_one WD W5.heap.size hS.size a2 a3 (some ⟨gk, 0, none⟩) 2 2 (two xk xt xc yk yt yc) (hTw.below hS)
     have hS' := hS.trans (hbz.mono hS.size)
     refine hK.out _ _ hS' (fun _ => ?_)
     clear hK K'
     have hS0 := hS
     clear hS
     have hS := hS'
     clear hS'
     have hlg : WD.heap.size < (WD.alloc (.cells #[.int .i64 a2, .int .i64 a3, .slice (some ⟨gk, 0, none⟩) 2 2] 26 (0, 0))).heap.size := by simp
     generalize (WD.alloc (.cells #[.int .i64 a2, .int .i64 a3, .slice (some ⟨gk, 0, none⟩) 2 2] 26 (0, 0))) = WE at *
     have hgl := hS0.size
     generalize WD.heap.size = gl at *
     clear hS0
     clear hbz
     try simp only [List.getElem_toArray, List.getElem_cons_succ, List.getElem_cons_zero, Act.put, List.setIfInBounds_toArray, List.set_cons_zero, List.set_cons_succ]
     refine wpAnyH_ready (rs := [4]) (by kernel_rfl) (by decide) ?_
     refine AllReadyH.cons rfl (fun K' hK => ?_) AllReadyH.nil
     rw [if_pos (by kernel_rfl)]
     refine oper_call (run_call2 cf_ndFind) ((ndFindW_any W5 xk xt a3 a5 n5 c5 xc WE hS hX (by omega)).mono ?_)
     rintro e WX ⟨L1, b1, d1, rfl, hL1, hs1, hbX⟩
     replace hL1 := hide hL1
     replace hR := hR.below hbX
     have hs1' : SlQ (fun g => (Value.slice (some ⟨gl, 0, none⟩) 1 1).ownBlock ≠ some g ∧ g < WX.heap.size) WX b1 L1.length d1 (F.ofL L1) := hs1.mono (fun g hg => ⟨fun e => by
       have e : gl = g := by simpa [Value.ownBlock] using e
       rcases hg.1 with h | h <;> omega, hg.lt⟩)
     clear hs1
     replace hs1 := hs1'
     clear hs1'
     have hS' := hS.trans (hbX.mono hS.size)
     refine ⟨_, rfl, hK.out _ _ hS' (fun _ => ?_)⟩
     clear hK K' hS
     have hS := hS'
     clear hS'
     clear hbX hlg
     generalize WX = WF at *
     try simp only [List.getElem_toArray, List.getElem_cons_succ, List.getElem_cons_zero, Act.put, List.setIfInBounds_toArray, List.set_cons_zero, List.set_cons_succ]
     refine wpAnyH_ready (rs := [5]) (by kernel_rfl) (by decide) ?_
     refine AllReadyH.cons rfl (fun K' hK => ?_) AllReadyH.nil
     rw [if_pos (by kernel_rfl)]
     refine oper_append_rowL (.tmp 50) (.tmp 53) rfl rfl hR rfl hs1 (by have := hLl L1 (unhide hL1); simp only [List.length_cons, List.length_nil]; omega) hS.size ?_
     intro v1 WG hR2 hb2 hg2 hlies
     have hS' : RowKit.Below W5.heap.size W5 WG := hS.trans hb2
     refine hK.out _ _ hS' (fun _ => ?_)
     clear hK K' hS hR hs1 hg2 hlies hb2
     have hS := hS'
     clear hS'
     try simp only [List.getElem_toArray, List.getElem_cons_succ, List.getElem_cons_zero, Act.put, List.setIfInBounds_toArray, List.set_cons_zero, List.set_cons_succ]
     refine wpAnyH_ready (rs := [8]) (by kernel_rfl) (by decide) ?_
     refine AllReadyH.cons rfl (fun K' hK => ?_) AllReadyH.nil
     rw [if_pos (by kernel_rfl)]
     refine oper_call (run_call2 cf_ndFind) ((ndFindW_any W5 yk yt a3 a6 n6 c6 yc WG hS hY (by omega)).mono ?_)
     rintro e WH ⟨L2, b2, d2, rfl, hL2, hs2, hbX⟩
     replace hL2 := hide hL2
     have hs2' : SlQ (fun g => v1.ownBlock ≠ some g ∧ g < WH.heap.size) WH b2 L2.length d2 (F.ofL L2) := hs2.mono (fun g hg => ⟨fun e => by
       have := hR2.lt g e
       rcases hg.1 with h | h <;> omega, hg.lt⟩)
     have hR3 := hR2.below hbX
     have hS' : RowKit.Below W5.heap.size W5 WH := hS.trans (hbX.mono hS.size)
     refine ⟨_, rfl, hK.out _ _ hS' (fun _ => ?_)⟩
     clear hK K' hS hs2 hbX hR2
     have hS := hS'
     clear hS'
     try simp only [List.getElem_toArray, List.getElem_cons_succ, List.getElem_cons_zero, Act.put, List.setIfInBounds_toArray, List.set_cons_zero, List.set_cons_succ]
     refine wpAnyH_ready (rs := [9]) (by kernel_rfl) (by decide) ?_
     refine AllReadyH.cons rfl (fun K' hK => ?_) AllReadyH.nil
     rw [if_pos (by kernel_rfl)]
     refine oper_append_rowL (.tmp 54) (.tmp 57) rfl rfl hR3 rfl hs2' (by have := hLl L1 (unhide hL1); have := hLl2 L2 (unhide hL2); simp only [List.length_append, List.length_cons, List.length_nil]; omega) hS.size ?_
     intro v2 WI hR4 hb4 hg4 hlies4
     have hS' : RowKit.Below W5.heap.size W5 WI := hS.trans hb4
     refine hK.out _ _ hS' (fun _ => ?_)
     clear hK K' hS hR3 hs2' hg4 hlies4 hb4
     have hS := hS'
     clear hS'
     try simp only [List.getElem_toArray, List.getElem_cons_succ, List.getElem_cons_zero, Act.put, List.setIfInBounds_toArray, List.set_cons_zero, List.set_cons_succ]
     refine wpAnyH_ready (rs := [10]) (by kernel_rfl) (by decide) ?_
     refine AllReadyH.cons rfl (fun K' hK => ?_) AllReadyH.nil
     rw [if_pos (by kernel_rfl)]
     refine oper_of_run (v := v2) (w' := WI) (rfl) ?_
     refine hK.out _ _ hS (fun _ => ?_)
     clear hK K'
     try simp only [List.getElem_toArray, List.getElem_cons_succ, List.getElem_cons_zero, Act.put, List.setIfInBounds_toArray, List.set_cons_zero, List.set_cons_succ]
     refine wpAnyH_done (by kernel_rfl) ?_ _
     obtain ⟨av, cv, e2, hsl⟩ := hR4.sl
     clear hR4
     generalize hmL : (([(⟨a2, a3, two xk xt xc yk yt yc⟩ : Nd)] ++ L1) ++ L2).length = m at e2 hsl
     subst e2
     replace hmL := hide hmL
     go_wp2
     go_meet
     case rel => exact ⟨av, cv, m, L1, L2, rfl, unhide hmL, unhide hL1, unhide hL2, hsl, hS⟩
   · rw [if_pos (by kernel_rfl)]
     refine oper_call (run_call2 cf_ndFind) ((ndFindW_any W5 xk xt a3 a5 n5 c5 xc WD hS hX (by omega)).mono ?_)
     rintro e WX ⟨L1, b1, d1, rfl, hL1, hs1, hbX⟩
     replace hL1 := hide hL1
     have hs1' : SlQ (fun g => g < WX.heap.size) WX b1 L1.length d1 (F.ofL L1) := hs1.mono (fun g hg => hg.lt)
     clear hs1
     have hS' := hS.trans (hbX.mono hS.size)
     refine ⟨_, rfl, hK.out _ _ hS' (fun _ => ?_)⟩
     clear hK K' hS
     have hS := hS'
     clear hS'
     clear hbX
     generalize WX = WD at *
     try simp only [List.getElem_toArray, List.getElem_cons_succ, List.getElem_cons_zero, Act.put, List.setIfInBounds_toArray, List.set_cons_zero, List.set_cons_succ]
     refine wpAnyH_ready (rs := [1]) (by kernel_rfl) (by decide) ?_
     refine AllReadyH.cons rfl (fun K' hK => ?_) AllReadyH.nil
     rw [if_pos (by kernel_rfl)]
     refine oper_of_run (run_build_node WD _ _ _ _ _ _ _ a2 a3 (some ⟨gk, 0, none⟩) 2 2 rfl) ?_
     have hbz := below_alloc WD (.cells #[.int .i64 a2, .int .i64 a3, .slice (some ⟨gk, 0, none⟩) 2 2] 26 (0, 0))
     have hR := rowL_one WD W5.heap.size hS.size a2 a3 (some ⟨gk, 0, none⟩) 2 2 (two xk xt xc yk yt yc) (hTw.below hS)
     have hS' := hS.trans (hbz.mono hS.size)
     refine hK.out _ _ hS' (fun _ => ?_)
     clear hK K' hS
     have hS := hS'
     clear hS'
     have hlg : WD.heap.size < (WD.alloc (.cells #[.int .i64 a2, .int .i64 a3, .slice (some ⟨gk, 0, none⟩) 2 2] 26 (0, 0))).heap.size := by simp
     have hs1 : SlQ (fun g => (Value.slice (some ⟨WD.heap.size, 0, none⟩) 1 1).ownBlock ≠ some g ∧ g < (WD.alloc (.cells #[.int .i64 a2, .int .i64 a3, .slice (some ⟨gk, 0, none⟩) 2 2] 26 (0, 0))).heap.size) (WD.alloc (.cells #[.int .i64 a2, .int .i64 a3, .slice (some ⟨gk, 0, none⟩) 2 2] 26 (0, 0))) b1 L1.length d1 (F.ofL L1) := (hs1'.below hbz).mono (fun g hg => ⟨fun e => by
       have e : WD.heap.size = g := by simpa [Value.ownBlock] using e
       have := hg.1; omega, hg.lt⟩)
     clear hs1'
     generalize (WD.alloc (.cells #[.int .i64 a2, .int .i64 a3, .slice (some ⟨gk, 0, none⟩) 2 2] 26 (0, 0))) = WF at *
     generalize WD.heap.size = gl at *
     clear hbz hlg
     try simp only [List.getElem_toArray, List.getElem_cons_succ, List.getElem_cons_zero, Act.put, List.setIfInBounds_toArray, List.set_cons_zero, List.set_cons_succ]
     refine wpAnyH_ready (rs := [5]) (by kernel_rfl) (by decide) ?_
     refine AllReadyH.cons rfl (fun K' hK => ?_) AllReadyH.nil
     rw [if_pos (by kernel_rfl)]
     refine oper_append_rowL (.tmp 50) (.tmp 53) rfl rfl hR rfl hs1 (by have := hLl L1 (unhide hL1); simp only [List.length_cons, List.length_nil]; omega) hS.size ?_
     intro v1 WG hR2 hb2 hg2 hlies
     have hS' : RowKit.Below W5.heap.size W5 WG := hS.trans hb2
     refine hK.out _ _ hS' (fun _ => ?_)
     clear hK K' hS hR hs1 hg2 hlies hb2
     have hS := hS'
     clear hS'
     try simp only [List.getElem_toArray, List.getElem_cons_succ, List.getElem_cons_zero, Act.put, List.setIfInBounds_toArray, List.set_cons_zero, List.set_cons_succ]
     refine wpAnyH_ready (rs := [8]) (by kernel_rfl) (by decide) ?_
     refine AllReadyH.cons rfl (fun K' hK => ?_) AllReadyH.nil
     rw [if_pos (by kernel_rfl)]
     refine oper_call (run_call2 cf_ndFind) ((ndFindW_any W5 yk yt a3 a6 n6 c6 yc WG hS hY (by omega)).mono ?_)
     rintro e WH ⟨L2, b2, d2, rfl, hL2, hs2, hbX⟩
     replace hL2 := hide hL2
     have hs2' : SlQ (fun g => v1.ownBlock ≠ some g ∧ g < WH.heap.size) WH b2 L2.length d2 (F.ofL L2) := hs2.mono (fun g hg => ⟨fun e => by
       have := hR2.lt g e
       rcases hg.1 with h | h <;> omega, hg.lt⟩)
     have hR3 := hR2.below hbX
     have hS' : RowKit.Below W5.heap.size W5 WH := hS.trans (hbX.mono hS.size)
     refine ⟨_, rfl, hK.out _ _ hS' (fun _ => ?_)⟩
     clear hK K' hS hs2 hbX hR2
     have hS := hS'
     clear hS'
     try simp only [List.getElem_toArray, List.getElem_cons_succ, List.getElem_cons_zero, Act.put, List.setIfInBounds_toArray, List.set_cons_zero, List.set_cons_succ]
     refine wpAnyH_ready (rs := [9]) (by kernel_rfl) (by decide) ?_
     refine AllReadyH.cons rfl (fun K' hK => ?_) AllReadyH.nil
     rw [if_pos (by kernel_rfl)]
     refine oper_append_rowL (.tmp 54) (.tmp 57) rfl rfl hR3 rfl hs2' (by have := hLl L1 (unhide hL1); have := hLl2 L2 (unhide hL2); simp only [List.length_append, List.length_cons, List.length_nil]; omega) hS.size ?_
     intro v2 WI hR4 hb4 hg4 hlies4
     have hS' : RowKit.Below W5.heap.size W5 WI := hS.trans hb4
     refine hK.out _ _ hS' (fun _ => ?_)
     clear hK K' hS hR3 hs2' hg4 hlies4 hb4
     have hS := hS'
     clear hS'
     try simp only [List.getElem_toArray, List.getElem_cons_succ, List.getElem_cons_zero, Act.put, List.setIfInBounds_toArray, List.set_cons_zero, List.set_cons_succ]
     refine wpAnyH_ready (rs := [10]) (by kernel_rfl) (by decide) ?_
     refine AllReadyH.cons rfl (fun K' hK => ?_) AllReadyH.nil
     rw [if_pos (by kernel_rfl)]
     refine oper_of_run (v := v2) (w' := WI) (rfl) ?_
     refine hK.out _ _ hS (fun _ => ?_)
     clear hK K'
     try simp only [List.getElem_toArray, List.getElem_cons_succ, List.getElem_cons_zero, Act.put, List.setIfInBounds_toArray, List.set_cons_zero, List.set_cons_succ]
     refine wpAnyH_done (by kernel_rfl) ?_ _
     obtain ⟨av, cv, e2, hsl⟩ := hR4.sl
     clear hR4
     generalize hmL : (([(⟨a2, a3, two xk xt xc yk yt yc⟩ : Nd)] ++ L1) ++ L2).length = m at e2 hsl
     subst e2
     replace hmL := hide hmL
     go_wp2
     go_meet
     case rel => exact ⟨av, cv, m, L1, L2, rfl, unhide hmL, unhide hL1, unhide hL2, hsl, hS⟩
  case rest =>
   obtain ⟨av, cv, m, L1, L2, rfl, hm, hL1, hL2, hsl, hbr⟩ := hcut
   have hLT : ((visN allA ⟨a2, a3, two xk xt xc yk yt yc⟩).map (·.1)).filter (fun x => decide (x.t = a3)) = ([(⟨a2, a3, two xk xt xc yk yt yc⟩ : Nd)] ++ L1) ++ L2 := by
     rw [hL1, hL2, visN_fst, visN_fst, visN_fst]
     have e : vlN allA ⟨a2, a3, two xk xt xc yk yt yc⟩ = ⟨a2, a3, two xk xt xc yk yt yc⟩ :: (vlN allA ⟨xk, xt, xc⟩ ++ vlN allA ⟨yk, yt, yc⟩) := by
       rw [← vl_two]; rfl
     rw [e, List.filter_cons, if_pos (by simp), List.filter_append]
     rfl
   have hml : m ≤ 100 := by
     have h1 := hLl L1 hL1
     rw [← hm, ← hLT, visN_fst]
     have h2 := List.length_filter_le (fun x : Nd => decide (x.t = a3)) (vlN allA ⟨a2, a3, two xk xt xc yk yt yc⟩)
     have h3 := vlN_len allA ⟨a2, a3, two xk xt xc yk yt yc⟩
     dsimp only at h3
     have h4 : (two xk xt xc yk yt yc).size ≤ 82 := by simp only [two, F.size]; omega
     omega
   have hsz : (F.ofL (([(⟨a2, a3, two xk xt xc yk yt yc⟩ : Nd)] ++ L1) ++ L2)).size ≤ 100000 := by
     rw [← hLT, visN_fst]
     exact hFs
   generalize ([(⟨a2, a3, two xk xt xc yk yt yc⟩ : Nd)] ++ L1) ++ L2 = L at *
   clear hL1 hL2 hLl hLl2 hFs
   replace bt := bt.below hbr lgt
   replace hTw := hTw.below hbr
   replace hbw5 := hide (below3 (unhide hbw5) hbr)
   have hW := hide (ndFind_any a2 a3 a3 _ 2 2 (two xk xt xc yk yt yc) wc hTw (by omega))
   obtain ⟨y0, y1, y2⟩ := bt
   replace hsl := hide hsl
   replace hm := hide hm
   replace hLT := hide hLT
   clear bx by2 hX hY hbr lgn lgm hTw
   go_wp2_with fail
   refine (unhide hW).mono ?_
   rintro e WA ⟨Lf, af, cf, rfl, hLf, hsf, hb9A⟩
   rw [unhide hLT] at hLf
   subst hLf
   have hslA := hide ((unhide hsl).below hb9A)
   have hbwA := hide (below3 (unhide hbw5) hb9A)
   rw [unhide hm] at hsf
   simp only [unhide hm]
   replace hsf := hide hsf
   clear hW hsl hbw5 hb9A hLT y0 y1 y2
   go_wp2
   go_loopg [15] m (fun gf s15 wx => ∃ i : Nat, s15 = .int .i64 i ∧ i + gf = m ∧ Below WA.heap.size WA wx)
   case atStart => exact ⟨0, rfl, by omega, Below.refl _ _⟩
   case round =>
    obtain ⟨i, rfl, hig, hbr⟩ := hrel
    by_cases hlt : i < m
    · have hlz : (i : Int) < m := by omega
      have hsfr := (unhide hsf).below hbr
      have hslr := (unhide hslA).below hbr
      obtain ⟨g1, o1, kk, tt, a1', n1', c1', cc, rfl, ht1, hd1, x0, x1, x2, hs1⟩ := hsfr.at hlt
      obtain ⟨g2, o2, kk2, tt2, a2', n2', c2', cc2, rfl, ht2, hd2, v0, v1, v2, hs2⟩ := hslr.at hlt
      rw [hd1] at hd2
      injection hd2 with e1 e2 e3
      subst e1 e2 e3
      have lg1 := ht1.lt
      have lg2 := ht2.lt
      have hcsz := drop_c_size hd1
      replace hsfr := hide hsfr
      replace hslr := hide hslr
      replace hs1 := hide hs1
      replace hs2 := hide hs2
      replace hd1 := hide hd1
      replace hbr := hide hbr
      clear ht1 ht2
      obtain ⟨g', rfl⟩ : ∃ g', gk = g' + 1 := ⟨gk - 1, by omega⟩
      go_upto_region 15 with fail
      replace hs1 := unhide hs1
      replace hs2 := unhide hs2
      have hS : RowKit.Below wr.heap.size wr wr.drew := (RowKit.Below.refl _ _).drew
      refine wp_region_held_drew (S := fun w' => RowKit.Below wr.heap.size wr w') (by kernel_rfl) hS (fun _ => ?_)
      generalize World.drew wr = WD at hS ⊢
      refine wpAnyH_take (i := 0) (v := .slice (some ⟨g1, o1, none⟩) m cf) rfl (by kernel_rfl) (by kernel_rfl) (by kernel_rfl) (fun _ _ _ h => h) (Or.inl ⟨by kernel_rfl, ?_⟩) hS ?_
      · intro w hSw
        clear x0 x1 x2 v0 v1 v2
        go_simp
      try simp only [List.getElem_toArray, List.getElem_cons_succ, List.getElem_cons_zero, Act.put, List.setIfInBounds_toArray, List.set_cons_zero, List.set_cons_succ]
      refine wpAnyH_take (i := 1) (v := .int .i64 i) rfl (by kernel_rfl) (by kernel_rfl) (by kernel_rfl) (fun _ _ _ h => h) (Or.inl ⟨by kernel_rfl, ?_⟩) hS ?_
      · intro w hSw
        clear x0 x1 x2 v0 v1 v2
        go_simp
      try simp only [List.getElem_toArray, List.getElem_cons_succ, List.getElem_cons_zero, Act.put, List.setIfInBounds_toArray, List.set_cons_zero, List.set_cons_succ]
      refine wpAnyH_take (i := 2) (v := .pointer (some ⟨g1, o1 + i * 3, none⟩)) rfl (by kernel_rfl) (by kernel_rfl) (by kernel_rfl) (fun _ _ _ h => h) (Or.inl ⟨by kernel_rfl, ?_⟩) hS ?_
      · intro w hSw
        clear x0 x1 x2 v0 v1 v2
        go_simp
      try simp only [List.getElem_toArray, List.getElem_cons_succ, List.getElem_cons_zero, Act.put, List.setIfInBounds_toArray, List.set_cons_zero, List.set_cons_succ]
      refine wpAnyH_take (i := 3) (v := .agg #[.int .i64 kk, .int .i64 tt, .slice a1' n1' c1']) rfl (by kernel_rfl) (by kernel_rfl) (by kernel_rfl) (fun _ _ _ h => h) (Or.inl ⟨by kernel_rfl, ?_⟩) hS ?_
      · intro w hSw
        have ex0 := (hSw.cell (p := ⟨g1, o1 + i * 3, none⟩) lg1).trans x0
        have ex1 := (hSw.cell (p := ⟨g1, o1 + i * 3 + 1, none⟩) lg1).trans x1
        have ex2 := (hSw.cell (p := ⟨g1, o1 + i * 3 + 2, none⟩) lg1).trans x2
        clear x0 x1 x2 v0 v1 v2
        go_simp
      try simp only [List.getElem_toArray, List.getElem_cons_succ, List.getElem_cons_zero, Act.put, List.setIfInBounds_toArray, List.set_cons_zero, List.set_cons_succ]
      refine wpAnyH_take (i := 4) (v := .slice (some ⟨g2, o2, none⟩) m cv) rfl (by kernel_rfl) (by kernel_rfl) (by kernel_rfl) (fun _ _ _ h => h) (Or.inl ⟨by kernel_rfl, ?_⟩) hS ?_
      · intro w hSw
        clear x0 x1 x2 v0 v1 v2
        go_simp
      try simp only [List.getElem_toArray, List.getElem_cons_succ, List.getElem_cons_zero, Act.put, List.setIfInBounds_toArray, List.set_cons_zero, List.set_cons_succ]
      refine wpAnyH_take (i := 5) (v := .int .i64 i) rfl (by kernel_rfl) (by kernel_rfl) (by kernel_rfl) (fun _ _ _ h => h) (Or.inl ⟨by kernel_rfl, ?_⟩) hS ?_
      · intro w hSw
        clear x0 x1 x2 v0 v1 v2
        go_simp
      try simp only [List.getElem_toArray, List.getElem_cons_succ, List.getElem_cons_zero, Act.put, List.setIfInBounds_toArray, List.set_cons_zero, List.set_cons_succ]
      refine wpAnyH_take (i := 6) (v := .pointer (some ⟨g2, o2 + i * 3, none⟩)) rfl (by kernel_rfl) (by kernel_rfl) (by kernel_rfl) (fun _ _ _ h => h) (Or.inl ⟨by kernel_rfl, ?_⟩) hS ?_
      · intro w hSw
        clear x0 x1 x2 v0 v1 v2
        go_simp
      try simp only [List.getElem_toArray, List.getElem_cons_succ, List.getElem_cons_zero, Act.put, List.setIfInBounds_toArray, List.set_cons_zero, List.set_cons_succ]
      refine wpAnyH_take (i := 7) (v := .agg #[.int .i64 kk, .int .i64 tt, .slice a2' n2' c2']) rfl (by kernel_rfl) (by kernel_rfl) (by kernel_rfl) (fun _ _ _ h => h) (Or.inl ⟨by kernel_rfl, ?_⟩) hS ?_
      · intro w hSw
        have ev0 := (hSw.cell (p := ⟨g2, o2 + i * 3, none⟩) lg2).trans v0
        have ev1 := (hSw.cell (p := ⟨g2, o2 + i * 3 + 1, none⟩) lg2).trans v1
        have ev2 := (hSw.cell (p := ⟨g2, o2 + i * 3 + 2, none⟩) lg2).trans v2
        clear x0 x1 x2 v0 v1 v2
        go_simp
      try simp only [List.getElem_toArray, List.getElem_cons_succ, List.getElem_cons_zero, Act.put, List.setIfInBounds_toArray, List.set_cons_zero, List.set_cons_succ]
      refine wpAnyH_ready (rs := [8]) (by kernel_rfl) (by decide) ?_
      refine AllReadyH.cons rfl (fun K' hK => ?_) AllReadyH.nil
      rw [if_pos (by kernel_rfl)]
      refine oper_call (run_call2 cf_rEqN) ((rEqN_any 100001 kk tt kk tt a1' a2' n1' c1' n2' c2' cc cc WD (by omega) (by omega) (hs1.below hS) (hs2.below hS)).mono ?_)
      rintro e WX ⟨rfl, hbX⟩
      rw [decide_eq_true rfl]
      have hS' : RowKit.Below wr.heap.size wr WX := hS.trans (hbX.mono hS.size)
      refine ⟨_, rfl, hK.out _ _ hS' (fun _ => ?_)⟩
      clear hK K' hS
      have hS := hS'
      clear hS'
      generalize WX = WD at *
      try simp only [List.getElem_toArray, List.getElem_cons_succ, List.getElem_cons_zero, Act.put, List.setIfInBounds_toArray, List.set_cons_zero, List.set_cons_succ]
      refine wpAnyH_ready (rs := [9]) (by kernel_rfl) (by decide) ?_
      refine AllReadyH.cons rfl (fun K' hK => ?_) AllReadyH.nil
      rw [if_pos (by kernel_rfl)]
      refine oper_of_run (v := .bool false) (w' := WD) (rfl) ?_
      refine hK.out _ _ hS (fun _ => ?_)
      clear hK K'
      try simp only [List.getElem_toArray, List.getElem_cons_succ, List.getElem_cons_zero, Act.put, List.setIfInBounds_toArray, List.set_cons_zero, List.set_cons_succ]
      refine wpAnyH_done (by kernel_rfl) ?_ _
      have hbe := below3 (unhide hbr) hS
      clear hS hs1 hs2 x0 x1 x2 v0 v1 v2
      replace hbe := hide hbe
      go_wp2
      go_roundg g'
      case measure => omega
      case rel => exact ⟨i + 1, by go_num, by omega, unhide hbe⟩
    · have hlz : ¬ (i : Int) < m := by omega
      have hbe := below3 (unhide hbwA) hbr
      replace hbe := hide hbe
      clear hbr
      go_wp2
      go_ret
      exact ⟨rfl, unhide hbe⟩
end Go.Proofs.YthnapcdanccohaaDoor

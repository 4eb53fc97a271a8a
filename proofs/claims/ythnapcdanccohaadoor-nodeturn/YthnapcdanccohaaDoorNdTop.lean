/-
  Of with no numbers; the tree of a list cut at forty.
-/
import Derived.Test.YthnapcdanccohaaDoorNdOf
namespace Go.Proofs.YthnapcdanccohaaDoor
open Go.RowKit Go.Lib Go.Sort
set_option linter.unusedSimpArgs false
set_option linter.unusedVariables false
def treeN (zs : List Int) : Nd := match zs.take 40 with
  | [] => ⟨0, 0, .nil⟩
  | z :: r => ⟨kdO z, tkO z, (tO (z :: r) 0 1).1⟩
theorem treeN_size (zs : List Int) : (treeN zs).c.size ≤ 40 := by
  unfold treeN
  have hl : (zs.take 40).length ≤ 40 := List.length_take_le _ _
  split
  · simp [F.size]
  · rename_i z r e
    rw [e] at hl
    have h1 := ofT_size kdO tkO odO (z :: r) 0 1
    have h2 := ofT_max kdO tkO odO (z :: r) 0 1
    simp only [tO]
    omega
set_option maxHeartbeats 4000000 in
set_option maxRecDepth 100000 in
theorem nlOf_none (a : Option Addr) (cap ga : Nat) (w : World) (hA : Cell1 w ga 3 (.int .i64 0)) :
    Calls Tryd.prog 22 #[.slice a 0 cap, .pointer (some ⟨ga, 0, none⟩), .int .i64 0] w fun e w' => e = .returned (.agg #[.int .i64 0, .int .i64 0, .slice none 0 0]) ∧ Moves (fun x => x = ga) (fun x => x = ga) w w' := by
  obtain ⟨gr, hgr⟩ : ∃ gr, w.heap.size = gr := ⟨_, rfl⟩
  have hlt := hA.lt
  have n0 := nblk_new w 0 0 none 0 0
  have n1 := nblk_new (w.alloc (.cells #[.int .i64 0, .int .i64 0, .slice none 0 0] 26 (0, 0))) 0 0 none 0 0
  rw [show (w.alloc (.cells #[.int .i64 0, .int .i64 0, .slice none 0 0] 26 (0, 0))).heap.size = gr + 1 by simp [hgr]] at n1
  rw [hgr] at n0
  have hb : Below w.heap.size w ((w.alloc (.cells #[.int .i64 0, .int .i64 0, .slice none 0 0] 26 (0, 0))).alloc (.cells #[.int .i64 0, .int .i64 0, .slice none 0 0] 26 (0, 0))) := ((Below.refl _ _).alloc (Nat.le_refl _) _).alloc (by simp) _
  have n0' : NBlk ((w.alloc (.cells #[.int .i64 0, .int .i64 0, .slice none 0 0] 26 (0, 0))).alloc (.cells #[.int .i64 0, .int .i64 0, .slice none 0 0] 26 (0, 0))) gr 0 0 none 0 0 := n0.same (Below.heap_alloc _ _ _ n0.lt)
  have hA1 : Cell1 ((w.alloc (.cells #[.int .i64 0, .int .i64 0, .slice none 0 0] 26 (0, 0))).alloc (.cells #[.int .i64 0, .int .i64 0, .slice none 0 0] 26 (0, 0))) ga 3 (.int .i64 0) := hA.same (hb.block ga hlt)
  have hM1 : Moves (fun x => x = ga) (fun x => x = ga) w ((w.alloc (.cells #[.int .i64 0, .int .i64 0, .slice none 0 0] 26 (0, 0))).alloc (.cells #[.int .i64 0, .int .i64 0, .slice none 0 0] 26 (0, 0))) := ⟨hb.os, hb.tape, hb.output, hb.size, fun x hx _ => hb.block x hx, fun _ h => .inl h⟩
  have hsz1 : ((w.alloc (.cells #[.int .i64 0, .int .i64 0, .slice none 0 0] 26 (0, 0))).alloc (.cells #[.int .i64 0, .int .i64 0, .slice none 0 0] 26 (0, 0))).heap.size = gr + 2 := by simp [hgr]
  have hga1 : ga ≠ gr + 1 := by omega
  have hga0 : ga ≠ gr := by omega
  have hc := hA.cell
  have hc1 := hA1.cell
  have hf1 := hA1.frozen
  replace hb := hide hb
  replace n0 := hide n0'
  replace n1 := hide n1
  replace hA1 := hide hA1
  replace hM1 := hide hM1
  replace hsz1 := hide hsz1
  clear n0'
  go_enter Tryd.func22, Tryd.ntmps22
  go_wp2
  go_rounds 1
  have hX0 : NBlk (((w.alloc (.cells #[.int .i64 0, .int .i64 0, .slice none 0 0] 26 (0, 0))).alloc (.cells #[.int .i64 0, .int .i64 0, .slice none 0 0] 26 (0, 0))).setCell ⟨ga, 0, none⟩ (.int .i64 1)) gr 0 0 none 0 0 := (unhide n0).same (Below.heap_setCell _ _ _ _ (Ne.symm hga0))
  have hXM : Moves (fun x => x = ga) (fun x => x = ga) w (((w.alloc (.cells #[.int .i64 0, .int .i64 0, .slice none 0 0] 26 (0, 0))).alloc (.cells #[.int .i64 0, .int .i64 0, .slice none 0 0] 26 (0, 0))).setCell ⟨ga, 0, none⟩ (.int .i64 1)) := (unhide hM1).trans (moves_set _ ga 0 _ (fun x => x = ga) rfl)
  clear hc hc1 hf1 hb n0 n1 hA1 hM1 hsz1
  generalize (((w.alloc (.cells #[.int .i64 0, .int .i64 0, .slice none 0 0] 26 (0, 0))).alloc (.cells #[.int .i64 0, .int .i64 0, .slice none 0 0] 26 (0, 0))).setCell ⟨ga, 0, none⟩ (.int .i64 1)) = X at *
  have hX1 := (((hX0.set0 0).set1 0).set (a' := none) (n' := 0) (cap' := 0))
  obtain ⟨u0, u1, u2⟩ := hX1.box
  refine bodyPost_ret (v := .agg #[.int .i64 0, .int .i64 0, .slice none 0 0]) (by simp [results, Tryd.results22, go_sem, u0, u1, u2]) rfl ?_
  exact ⟨rfl, hXM.os, hXM.tape, hXM.output, by simp; exact hXM.size, fun x hx hc => by
    have e : x ≠ gr := by omega
    rw [Below.heap_setCell _ _ _ x e, Below.heap_setCell _ _ _ x e, Below.heap_setCell _ _ _ x e, hXM.block x hx hc], fun _ h => .inl h⟩
/-- Where tree ends: the node is laid into the result's block. -/
theorem tree_fin {w W2 : World} {gr : Nat} {k t k' t' : Int} {a a' : Option Addr} {n cap n' cap' : Nat} {c : F} (hgr : w.heap.size = gr) (hN : NBlk W2 gr k' t' a' n' cap') (hS : SlQ (fun x => gr + 2 ≤ x) W2 a n cap c) (hB : Below w.heap.size w W2) :
    NBlk (((W2.setCell ⟨gr, 0, none⟩ (.int .i64 k)).setCell ⟨gr, 1, none⟩ (.int .i64 t)).setCell ⟨gr, 2, none⟩ (.slice a n cap)) gr k t a n cap ∧
    SlQ (fun x => w.heap.size ≤ x) (((W2.setCell ⟨gr, 0, none⟩ (.int .i64 k)).setCell ⟨gr, 1, none⟩ (.int .i64 t)).setCell ⟨gr, 2, none⟩ (.slice a n cap)) a n cap c ∧
    Below w.heap.size w (((W2.setCell ⟨gr, 0, none⟩ (.int .i64 k)).setCell ⟨gr, 1, none⟩ (.int .i64 t)).setCell ⟨gr, 2, none⟩ (.slice a n cap)) := by
  refine ⟨((hN.set0 k).set1 t).set, ?_, ((hB.setCell (by simp; omega) _).setCell (by simp; omega) _).setCell (by simp; omega) _⟩
  exact (hS.keep (fun x hx => by
    have e : x ≠ gr := by have := hx.1; omega
    rw [Below.heap_setCell _ _ _ x e, Below.heap_setCell _ _ _ x e, Below.heap_setCell _ _ _ x e])).mono (fun x hx => by have := hx.1; omega)
theorem treeN_cons {zs : List Int} {m : Nat} {z : Int} (hz : zs.getD 0 0 = z) (hm : 0 < m) (h : zs.take 40 = zs.take m) (hl : m ≤ zs.length) : treeN zs = ⟨kdO z, tkO z, (tO (zs.take m) 0 1).1⟩ := by
  cases zs with
  | nil => simp at hl; omega
  | cons y r =>
    obtain ⟨m, rfl⟩ : ∃ m', m = m' + 1 := ⟨m - 1, by omega⟩
    have e : y = z := by simpa using hz
    subst e
    unfold treeN
    rw [h]
    rfl
set_option maxHeartbeats 4000000 in
set_option maxRecDepth 100000 in
/-- The tree of the first forty numbers of a slice. -/
theorem nlTree_any (zs : List Int) (a : Option Addr) (n cap : Nat) (w : World) (hz : zs.length = n) (hcap : n ≤ cap ∧ cap ≤ maxLen) (hR : 0 < n → ∃ g o, a = some ⟨g, o, none⟩ ∧ RdI w g o n zs) :
    Calls Tryd.prog 7 #[.slice a n cap] w fun e w' => ∃ (a' : Option Addr) (n' cap' : Nat), e = .returned (.agg #[.int .i64 (treeN zs).k, .int .i64 (treeN zs).t, .slice a' n' cap']) ∧
      SlQ (fun x => w.heap.size ≤ x) w' a' n' cap' (treeN zs).c ∧ Below w.heap.size w w' := by
  obtain ⟨gr, hgr⟩ : ∃ gr, w.heap.size = gr := ⟨_, rfl⟩
  have hcell := cell1_new (w.alloc (.cells #[.int .i64 0, .int .i64 0, .slice none 0 0] 26 (0, 0))) 3 (.int .i64 0)
  have hs0 : (w.alloc (.cells #[.int .i64 0, .int .i64 0, .slice none 0 0] 26 (0, 0))).heap.size = gr + 1 := by simp [hgr]
  rw [hs0] at hcell
  have hbA : Below w.heap.size w ((w.alloc (.cells #[.int .i64 0, .int .i64 0, .slice none 0 0] 26 (0, 0))).alloc (.cells #[.int .i64 0] 3 (0, 0))) := ((Below.refl _ _).alloc (Nat.le_refl _) _).alloc (by simp) _
  have n0 := nblk_new w 0 0 none 0 0
  rw [hgr] at n0
  have n0' : NBlk ((w.alloc (.cells #[.int .i64 0, .int .i64 0, .slice none 0 0] 26 (0, 0))).alloc (.cells #[.int .i64 0] 3 (0, 0))) gr 0 0 none 0 0 := n0.same (Below.heap_alloc _ _ _ n0.lt)
  have hsz : ((w.alloc (.cells #[.int .i64 0, .int .i64 0, .slice none 0 0] 26 (0, 0))).alloc (.cells #[.int .i64 0] 3 (0, 0))).heap.size = gr + 2 := by simp [hgr]
  unfold maxLen at hcap
  by_cases h0 : n = 0
  · subst h0
    obtain rfl := List.length_eq_zero_iff.1 hz
    have hH := hide (nlOf_none a cap (gr + 1) _ hcell)
    replace hbA := hide hbA
    replace hcell := hide hcell
    replace n0' := hide n0'
    replace hsz := hide hsz
    clear hR n0 hs0
    go_enter Tryd.func7, Tryd.ntmps7
    go_wp2_with fail
    refine (unhide hH).mono ?_
    rintro e W2 ⟨rfl, hM⟩
    have hN := (unhide n0').same (hM.block gr (by rw [unhide hsz]; omega) (by omega))
    have hB : Below w.heap.size w W2 := (unhide hbA).trans (hM.below (fun g hg => by omega) (by rw [unhide hsz]; omega))
    replace hB := hide hB
    clear hH hM n0' hsz hbA
    have f0 := hN.frozen 0
    have f1 := hN.frozen 1
    have f2 := hN.frozen 2
    have hF := hide (tree_fin (k := 0) (t := 0) (c := F.nil) hgr hN (sl_nil _ none 0 (Nat.zero_le _) (fun _ => rfl)) hB)
    obtain ⟨p0, p1, p2⟩ := hN.box
    replace hN := hide hN
    replace hB := hide hB
    go_wp2
    obtain ⟨hf1, hf2, hf3⟩ := unhide hF
    obtain ⟨u0, u1, u2⟩ := hf1.box
    refine bodyPost_ret (v := .agg #[.int .i64 (0), .int .i64 (0), .slice none 0 0]) (by simp [results, Tryd.results7, go_sem, u0, u1, u2]) rfl ?_
    exact ⟨none, 0, 0, rfl, hf2, hf3⟩
  · obtain ⟨g, o, rfl, hRd⟩ := hR (by omega)
    have hg := hRd.1
    have hR2 := hRd.same hbA.size (hbA.block g hg)
    obtain ⟨z, hz0⟩ : ∃ z, zs.getD 0 0 = z := ⟨_, rfl⟩
    obtain ⟨m, hm⟩ : ∃ m, min n 40 = m := ⟨_, rfl⟩
    have htk : zs.take 40 = zs.take m := by
      rw [← hm]
      by_cases h : n ≤ 40
      · rw [Nat.min_eq_left h, List.take_of_length_le (by omega), List.take_of_length_le (by omega)]
      · rw [Nat.min_eq_right (by omega)]
    have htn := treeN_cons hz0 (by omega) htk (by omega)
    have hzm : (zs.take m).getD 0 0 = z := by rw [← hz0]; cases zs with
      | nil => simp
      | cons y r => obtain ⟨m', rfl⟩ : ∃ m', m = m' + 1 := ⟨m - 1, by omega⟩; rfl
    have hRm : RdI ((w.alloc (.cells #[.int .i64 0, .int .i64 0, .slice none 0 0] 26 (0, 0))).alloc (.cells #[.int .i64 0] 3 (0, 0))) g o m (zs.take m) := ⟨hR2.1, fun j hj => by rw [hR2.2 j (by omega)]; simp [List.getD, hj]⟩
    have hH := hide (fun cap' => nlOf_any (zs.take m) g o m cap' (gr + 1) (by simp; omega) (by omega) (by omega) (m + 1) _ 0 0 z hzm (by omega) (by omega) (by omega) hcell hRm)
    rw [htn]
    generalize (tO (zs.take m) 0 1).1 = CC at *
    generalize kdO z = kk at *
    generalize tkO z = tt at *
    replace hbA := hide hbA
    replace hcell := hide hcell
    replace n0' := hide n0'
    replace hsz := hide hsz
    clear n0 hs0 hRd hR hR2 hRm htk htn hzm hz0
    by_cases h40 : n ≤ 40
    · have h40z : ¬ (40 : Int) < n := by omega
      obtain rfl : n = m := by omega
      go_enter Tryd.func7, Tryd.ntmps7
      go_wp2_with fail
      refine (unhide hH _).mono ?_
      rintro e W2 ⟨a', n', cap', rfl, hs, hA2, hM⟩
      rw [unhide hsz] at hs
      have hN := (unhide n0').same (hM.block gr (by rw [unhide hsz]; omega) (by omega))
      have hB : Below w.heap.size w W2 := (unhide hbA).trans (hM.below (fun g hg => by omega) (by rw [unhide hsz]; omega))
      clear hH hM n0' hsz hbA hA2
      have f0 := hN.frozen 0
      have f1 := hN.frozen 1
      have f2 := hN.frozen 2
      have hF := hide (tree_fin (k := kk) (t := tt) (c := CC) hgr hN hs hB)
      obtain ⟨p0, p1, p2⟩ := hN.box
      replace hN := hide hN
      replace hB := hide hB
      go_wp2
      obtain ⟨hf1, hf2, hf3⟩ := unhide hF
      obtain ⟨u0, u1, u2⟩ := hf1.box
      refine bodyPost_ret (v := .agg #[.int .i64 (kk), .int .i64 (tt), .slice a' n' cap']) (by simp [results, Tryd.results7, go_sem, u0, u1, u2]) rfl ?_
      exact ⟨a', n', cap', rfl, hf2, hf3⟩
    · have h40z : (40 : Int) < n := by omega
      obtain rfl : m = 40 := by omega
      go_enter Tryd.func7, Tryd.ntmps7
      go_wp2_with fail
      refine (unhide hH _).mono ?_
      rintro e W2 ⟨a', n', cap', rfl, hs, hA2, hM⟩
      rw [unhide hsz] at hs
      have hN := (unhide n0').same (hM.block gr (by rw [unhide hsz]; omega) (by omega))
      have hB : Below w.heap.size w W2 := (unhide hbA).trans (hM.below (fun g hg => by omega) (by rw [unhide hsz]; omega))
      clear hH hM n0' hsz hbA hA2
      have f0 := hN.frozen 0
      have f1 := hN.frozen 1
      have f2 := hN.frozen 2
      have hF := hide (tree_fin (k := kk) (t := tt) (c := CC) hgr hN hs hB)
      obtain ⟨p0, p1, p2⟩ := hN.box
      replace hN := hide hN
      replace hB := hide hB
      go_wp2
      obtain ⟨hf1, hf2, hf3⟩ := unhide hF
      obtain ⟨u0, u1, u2⟩ := hf1.box
      refine bodyPost_ret (v := .agg #[.int .i64 (kk), .int .i64 (tt), .slice a' n' cap']) (by simp [results, Tryd.results7, go_sem, u0, u1, u2]) rfl ?_
      exact ⟨a', n', cap', rfl, hf2, hf3⟩
end Go.Proofs.YthnapcdanccohaaDoor

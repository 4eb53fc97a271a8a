/-
  begun of stage 10's laws.
-/
import Derived.Test.YthnapcdanccohaaDoorNdFind
import Derived.Test.YthnapcdanccohaaDoorNdWxB
import Derived.Test.YthnapcdanccohaaDoorNdEq
import Derived.Test.YthnapcdanccohaaDoorNdName
namespace Go.Proofs.YthnapcdanccohaaDoor
open Go.RowKit Go.Lib Go.Sort
set_option linter.unusedSimpArgs false
set_option linter.unusedVariables false
theorem cf_ndCount (us : Array Value) (W : World) : Sem.run Tryd.prog (callFunc 10 us) W = .ok (.enter 10 us) W := by kernel_rfl
theorem cf_ndDeep (us : Array Value) (W : World) : Sem.run Tryd.prog (callFunc 12 us) W = .ok (.enter 12 us) W := by kernel_rfl
theorem cf_ndFind (us : Array Value) (W : World) : Sem.run Tryd.prog (callFunc 19 us) W = .ok (.enter 19 us) W := by kernel_rfl
theorem cf_ndEq (us : Array Value) (W : World) : Sem.run Tryd.prog (callFunc 8 us) W = .ok (.enter 8 us) W := by kernel_rfl
theorem cf_ndName (us : Array Value) (W : World) : Sem.run Tryd.prog (callFunc 14 us) W = .ok (.enter 14 us) W := by kernel_rfl
set_option maxHeartbeats 2000000 in
set_option maxRecDepth 100000 in
theorem begun1_any (g : Nat) (s : Int) (w : World) (k t : Int) (a : Option Addr) (n cap : Nat) (h : Cell1 w g 3 (.int .i64 s)) :
    Calls Tryd.prog 21 #[.agg #[.int .i64 k, .int .i64 t, .slice a n cap], .pointer (some ⟨g, 0, none⟩)] w fun e w' => e = .returned (.bool true) ∧ Cell1 w' g 3 (.int .i64 (wrap64 (s + 1))) ∧ Moves (fun x => x = g) (fun x => x = g) w w' := by
  have hA := h.alloc (.cells #[.int .i64 k, .int .i64 t, .slice a n cap] 26 (0, 0))
  have hc := hA.cell
  have hf := hA.frozen
  have hc0 := h.cell
  have hf0 := h.frozen
  have hS := hide ((h.set (.int .i64 (wrap64 (s + 1)))).alloc (.cells #[.int .i64 k, .int .i64 t, .slice a n cap] 26 (0, 0)))
  have hM := hide ((moves_set w g 0 (.int .i64 (wrap64 (s + 1))) (fun x => x = g) rfl).trans (moves_alloc _ (.cells #[.int .i64 k, .int .i64 t, .slice a n cap] 26 (0, 0)) _))
  have hl := h.lt
  replace h := hide h
  replace hA := hide hA
  go_enter Tryd.func21, Tryd.ntmps21
  go_wp2
  go_ret
  exact ⟨rfl, unhide hS, unhide hM⟩
def tc : F := .cons 20 0 .nil (.cons 21 2 .nil .nil)
theorem tc_sl (w : World) : Sl (w.alloc (.cells #[.int .i64 20, .int .i64 0, .slice none 0 0, .int .i64 21, .int .i64 2, .slice none 0 0] 26 (0, 0))) (some ⟨w.heap.size, 0, none⟩) 2 2 tc := by
  have hc : ∀ j u, (#[Value.int .i64 20, .int .i64 0, .slice none 0 0, .int .i64 21, .int .i64 2, .slice none 0 0] : Array Value)[j]? = some u → (w.alloc (.cells #[.int .i64 20, .int .i64 0, .slice none 0 0, .int .i64 21, .int .i64 2, .slice none 0 0] 26 (0, 0))).cell? ⟨w.heap.size, 0 + j, none⟩ = some u := fun j u hj => by
    rw [Nat.zero_add, World.cell?_alloc_mark]
    exact hj
  exact ⟨rfl, ⟨Nat.le_refl _, fun h => by cases h⟩, by unfold maxLen; omega, fun _ => ⟨w.heap.size, 0, rfl, ⟨trivial, _, heap_alloc_new w _⟩,
    hc 0 _ rfl, hc 1 _ rfl, ⟨none, 0, 0, hc 2 _ rfl, rfl, ⟨Nat.le_refl _, fun _ => rfl⟩, Nat.zero_le _, fun h => absurd h (Nat.lt_irrefl 0)⟩,
    hc 3 _ rfl, hc 4 _ rfl, ⟨none, 0, 0, hc 5 _ rfl, rfl, ⟨Nat.le_refl _, fun _ => rfl⟩, Nat.zero_le _, fun h => absurd h (Nat.lt_irrefl 0)⟩, trivial⟩⟩
def bgR : Int → Nd → Nat → Int → Prop := fun s _ _ s' => s' = wrap64 (s + 1)
theorem bgR3 (s' : Int) (h : RS bgR 0 (visN allA ⟨24, 1, tc⟩) s') : s' = 3 := by
  obtain ⟨m1, h1, m2, h2, m3, h3, h4⟩ := h
  have h1 : m1 = wrap64 (0 + 1) := h1
  have h2 : m2 = wrap64 (m1 + 1) := h2
  have h3 : m3 = wrap64 (m2 + 1) := h3
  have h4 : s' = m3 := h4
  rw [h4, h3, h2, h1]
  decide +kernel
/-- What the world is when the tree of begun has been gone through. -/
structure BgW (gk : Nat) (w W : World) : Prop where
  le : gk + 3 ≤ W.heap.size
  n0 : W.cell? ⟨gk + 1, 0, none⟩ = some (.int .i64 24)
  n1 : W.cell? ⟨gk + 1, 1, none⟩ = some (.int .i64 1)
  n2 : W.cell? ⟨gk + 1, 2, none⟩ = some (.slice (some ⟨gk, 0, none⟩) 2 2)
  m0 : W.cell? ⟨gk, 0, none⟩ = some (.int .i64 20)
  m1 : W.cell? ⟨gk, 1, none⟩ = some (.int .i64 0)
  m2 : W.cell? ⟨gk, 2, none⟩ = some (.slice none 0 0)
  s0 : W.cell? ⟨gk + 1 + 1, 0, none⟩ = some (.int .i64 3)
  sl : Sl W (some ⟨gk, 0, none⟩) 2 2 tc
  tab : Tab W
  below : Below gk w W
theorem begun_walk (w w1 : World) (gk : Nat) (hz : w1.heap.size = gk + 1) (hb : Below gk w w1) (hs : Sl w1 (some ⟨gk, 0, none⟩) 2 2 tc)
    (m0 : w1.cell? ⟨gk, 0, none⟩ = some (.int .i64 20)) (m1 : w1.cell? ⟨gk, 1, none⟩ = some (.int .i64 0)) (m2 : w1.cell? ⟨gk, 2, none⟩ = some (.slice none 0 0)) (hT : Tab w1) :
    Calls Tryd.prog 16 #[.agg #[.int .i64 24, .int .i64 1, .slice (some ⟨gk, 0, none⟩) 2 2], .func (.func 21) #[] #[.pointer (some ⟨gk + 1 + 1, 0, none⟩)]]
      ((w1.alloc (.cells #[.int .i64 24, .int .i64 1, .slice (some ⟨gk, 0, none⟩) 2 2] 26 (0, 0))).alloc (.cells #[.int .i64 0] 3 (0, 0))) fun e W => e = .returned (.tuple #[]) ∧ BgW gk w W := by
  have hbn := below_alloc w1 (.cells #[.int .i64 24, .int .i64 1, .slice (some ⟨gk, 0, none⟩) 2 2] 26 (0, 0))
  have hz2 : (w1.alloc (.cells #[.int .i64 24, .int .i64 1, .slice (some ⟨gk, 0, none⟩) 2 2] 26 (0, 0))).heap.size = gk + 1 + 1 := by simp [hz]
  have c0 : (w1.alloc (.cells #[.int .i64 24, .int .i64 1, .slice (some ⟨gk, 0, none⟩) 2 2] 26 (0, 0))).cell? ⟨w1.heap.size, 0, none⟩ = some (.int .i64 24) := cell_alloc_at w1 _ 26 0 (by simp)
  have c1 : (w1.alloc (.cells #[.int .i64 24, .int .i64 1, .slice (some ⟨gk, 0, none⟩) 2 2] 26 (0, 0))).cell? ⟨w1.heap.size, 1, none⟩ = some (.int .i64 1) := cell_alloc_at w1 _ 26 1 (by simp)
  have c2 : (w1.alloc (.cells #[.int .i64 24, .int .i64 1, .slice (some ⟨gk, 0, none⟩) 2 2] 26 (0, 0))).cell? ⟨w1.heap.size, 2, none⟩ = some (.slice (some ⟨gk, 0, none⟩) 2 2) := cell_alloc_at w1 _ 26 2 (by simp)
  generalize w1.alloc (.cells #[.int .i64 24, .int .i64 1, .slice (some ⟨gk, 0, none⟩) 2 2] 26 (0, 0)) = w2 at *
  rw [hz] at c0 c1 c2 hbn
  have hbs := below_alloc w2 (.cells #[.int .i64 0] 3 (0, 0))
  have hq := cell1_new w2 3 (.int .i64 0)
  rw [hz2] at hq hbs
  have hs2 := hs.below (by rw [hz]; exact hbn)
  have h2 : Below w2.heap.size w2 (w2.alloc (.cells #[.int .i64 0] 3 (0, 0))) := by rw [hz2]; exact hbs
  have hW := walkB_any (.pointer (some ⟨gk + 1 + 1, 0, none⟩)) allA bgR (fun s W => Cell1 W (gk + 1 + 1) 3 (.int .i64 s)) (fun _ g => g = gk + 1 + 1) w2 0
    (fun s W W' h _ hk => h.same (hk _ (.inr rfl)))
    (fun s W g h hg => by subst hg; exact ⟨by omega, h.lt⟩)
    (fun s W k t a n cap c d hI _ _ _ _ _ => (begun1_any (gk + 1 + 1) s W k t a n cap hI).mono (fun e W' ⟨he, h1, h2⟩ => ⟨he, _, rfl, h1, h2⟩))
    24 1 (some ⟨gk, 0, none⟩) 2 2 tc _ h2 hq hs2 (by decide)
  have hz3 : (w2.alloc (.cells #[.int .i64 0] 3 (0, 0))).heap.size = gk + 1 + 1 + 1 := by simp [hz2]
  generalize w2.alloc (.cells #[.int .i64 0] 3 (0, 0)) = w3 at *
  refine hW.mono ?_
  rintro e W ⟨rfl, s', hrs, hI, hM⟩
  have h3 := bgR3 s' hrs
  subst h3
  have hb3 : Below (gk + 1 + 1) w3 W := hM.below (fun g hg => by omega) (by omega)
  have hb23 : Below (gk + 1 + 1) w2 W := hbs.trans (hb3.mono (by omega))
  have hb13 : Below (gk + 1) w1 W := hbn.trans (hb23.mono (by omega))
  have hsz := hb3.size
  refine ⟨rfl, by omega, ?_, ?_, ?_, ?_, ?_, ?_, hI.cell, hs.below (by rw [hz]; exact hb13), hT.of (by rw [hz]; exact hb13), hb.trans (hb13.mono (by omega))⟩
  · exact (hb23.cell (p := ⟨gk + 1, 0, none⟩) (by show gk + 1 < gk + 1 + 1; omega)).trans c0
  · exact (hb23.cell (p := ⟨gk + 1, 1, none⟩) (by show gk + 1 < gk + 1 + 1; omega)).trans c1
  · exact (hb23.cell (p := ⟨gk + 1, 2, none⟩) (by show gk + 1 < gk + 1 + 1; omega)).trans c2
  · exact (hb13.cell (p := ⟨gk, 0, none⟩) (by show gk < gk + 1; omega)).trans m0
  · exact (hb13.cell (p := ⟨gk, 1, none⟩) (by show gk < gk + 1; omega)).trans m1
  · exact (hb13.cell (p := ⟨gk, 2, none⟩) (by show gk < gk + 1; omega)).trans m2
set_option maxHeartbeats 8000000 in
set_option maxRecDepth 100000 in
theorem nlBegun_any (w : World) (hT0 : Tab w) : Calls Tryd.prog 6 #[] w fun e w' => e = .returned (.bool true) ∧ RowKit.Below w.heap.size w w' := by
  obtain ⟨gk, hgk0⟩ : ∃ gk, w.heap.size = gk := ⟨_, rfl⟩
  have hz1 : (w.alloc (.cells #[.int .i64 20, .int .i64 0, .slice none 0 0, .int .i64 21, .int .i64 2, .slice none 0 0] 26 (0, 0))).heap.size = gk + 1 := by rw [← hgk0]; simp
  have hW := hide (begun_walk w _ gk hz1 (by rw [← hgk0]; exact below_alloc w _) (by rw [← hgk0]; exact tc_sl w)
    (by rw [← hgk0]; exact cell_alloc_at w _ 26 0 (by simp)) (by rw [← hgk0]; exact cell_alloc_at w _ 26 1 (by simp)) (by rw [← hgk0]; exact cell_alloc_at w _ 26 2 (by simp)) (hT0.of (below_alloc w _)))
  have hmf : ∀ (fn : Fn) (first cap : Array Value) (w : World), (Instr.makeFunc fn first cap).run Tryd.prog w = .ok (.func fn first cap) w := fun _ _ _ _ => rfl
  go_enter Tryd.func6, Tryd.ntmps6
  go_upto_region 3 with fail
  try rw [hgk0]
  go_wp2_with fail
  refine (unhide hW).mono ?_
  rintro e W2 ⟨rfl, hB⟩
  clear hW hz1 hT0
  have hgk : gk < W2.heap.size := by have := hB.le; omega
  have hgn : gk + 1 < W2.heap.size := by have := hB.le; omega
  have hgs : gk + 1 + 1 < W2.heap.size := by have := hB.le; omega
  have hbw : Hid (RowKit.Below w.heap.size w W2) := hide (by rw [hgk0]; exact hB.below)
  have hsl := hB.sl
  have hT := hB.tab
  obtain ⟨_, n0, n1, n2, m0, m1, m2, s0, _, _, _⟩ := hB
  replace hsl := hide hsl
  replace hT := hide hT
  go_upto_region 4 with fail
  replace hsl := unhide hsl
  replace hT := unhide hT
  generalize gk + 1 = gn at *
  generalize gn + 1 = gs at *
  have hS : RowKit.Below W2.heap.size W2 W2.drew := (RowKit.Below.refl _ _).drew
  refine wp_region_held_drew (S := fun w' => RowKit.Below W2.heap.size W2 w') (by kernel_rfl) hS (fun _ => ?_)
  generalize World.drew W2 = WD at hS ⊢
  refine wpAnyH_take (i := 0) (v := .agg #[.int .i64 24, .int .i64 1, .slice (some ⟨gk, 0, none⟩) 2 2]) rfl (by kernel_rfl) (by kernel_rfl) (by kernel_rfl) (fun _ _ _ h => h) (Or.inl ⟨by kernel_rfl, ?_⟩) hS ?_
  · intro w hSw
    have e0 := (hSw.cell (p := ⟨gn, 0, none⟩) hgn).trans n0
    have e1 := (hSw.cell (p := ⟨gn, 1, none⟩) hgn).trans n1
    have e2 := (hSw.cell (p := ⟨gn, 2, none⟩) hgn).trans n2
    clear n0 n1 n2 m0 m1 m2 s0
    go_simp
  try simp only [List.getElem_toArray, List.getElem_cons_succ, List.getElem_cons_zero, Act.put, List.setIfInBounds_toArray, List.set_cons_zero, List.set_cons_succ]
  refine wpAnyH_ready (rs := [1]) (by kernel_rfl) (by decide) ?_
  refine AllReadyH.cons rfl (fun K' hK => ?_) AllReadyH.nil
  rw [if_pos (by kernel_rfl)]
  refine oper_call (run_call1 cf_ndCount) ((ndCount_any 24 1 _ 2 2 tc WD (hsl.below hS) (by decide)).mono ?_)
  rintro e WX ⟨he, hbX⟩
  obtain rfl : e = .returned (.int .i64 3) := he.trans (by kernel_rfl)
  have hS' : RowKit.Below W2.heap.size W2 WX := hS.trans (hbX.mono hS.size)
  refine ⟨_, rfl, hK.out _ _ hS' (fun _ => ?_)⟩
  clear hK K' hS
  have hS := hS'
  clear hS'
  generalize WX = WD at *
  try simp only [List.getElem_toArray, List.getElem_cons_succ, List.getElem_cons_zero, Act.put, List.setIfInBounds_toArray, List.set_cons_zero, List.set_cons_succ]
  refine wpAnyH_take (i := 2) (v := .bool true) rfl (by kernel_rfl) (by kernel_rfl) (by kernel_rfl) (fun _ _ _ h => h) (Or.inl ⟨by kernel_rfl, ?_⟩) hS ?_
  · intro w hSw
    go_simp
  try simp only [List.getElem_toArray, List.getElem_cons_succ, List.getElem_cons_zero, Act.put, List.setIfInBounds_toArray, List.set_cons_zero, List.set_cons_succ]
  refine wpAnyH_take (i := 3) (v := .bool true) rfl (by kernel_rfl) (by kernel_rfl) (by kernel_rfl) (fun _ _ _ h => h) (Or.inl ⟨by kernel_rfl, ?_⟩) hS ?_
  · intro w hSw
    go_simp
  try simp only [List.getElem_toArray, List.getElem_cons_succ, List.getElem_cons_zero, Act.put, List.setIfInBounds_toArray, List.set_cons_zero, List.set_cons_succ]
  refine wpAnyH_take (i := 4) (v := .agg #[.int .i64 24, .int .i64 1, .slice (some ⟨gk, 0, none⟩) 2 2]) rfl (by kernel_rfl) (by kernel_rfl) (by kernel_rfl) (fun _ _ _ h => h) (Or.inl ⟨by kernel_rfl, ?_⟩) hS ?_
  · intro w hSw
    have e0 := (hSw.cell (p := ⟨gn, 0, none⟩) hgn).trans n0
    have e1 := (hSw.cell (p := ⟨gn, 1, none⟩) hgn).trans n1
    have e2 := (hSw.cell (p := ⟨gn, 2, none⟩) hgn).trans n2
    clear n0 n1 n2 m0 m1 m2 s0
    go_simp
  try simp only [List.getElem_toArray, List.getElem_cons_succ, List.getElem_cons_zero, Act.put, List.setIfInBounds_toArray, List.set_cons_zero, List.set_cons_succ]
  refine wpAnyH_ready (rs := [5]) (by kernel_rfl) (by decide) ?_
  refine AllReadyH.cons rfl (fun K' hK => ?_) AllReadyH.nil
  rw [if_pos (by kernel_rfl)]
  refine oper_call (run_call1 cf_ndDeep) ((ndDeep_any 24 1 _ 2 2 tc WD (hsl.below hS) (by decide)).mono ?_)
  rintro e WX ⟨he, hbX⟩
  obtain rfl : e = .returned (.int .i64 2) := he.trans (by kernel_rfl)
  have hS' : RowKit.Below W2.heap.size W2 WX := hS.trans (hbX.mono hS.size)
  refine ⟨_, rfl, hK.out _ _ hS' (fun _ => ?_)⟩
  clear hK K' hS
  have hS := hS'
  clear hS'
  generalize WX = WD at *
  try simp only [List.getElem_toArray, List.getElem_cons_succ, List.getElem_cons_zero, Act.put, List.setIfInBounds_toArray, List.set_cons_zero, List.set_cons_succ]
  refine wpAnyH_take (i := 6) (v := .bool true) rfl (by kernel_rfl) (by kernel_rfl) (by kernel_rfl) (fun _ _ _ h => h) (Or.inl ⟨by kernel_rfl, ?_⟩) hS ?_
  · intro w hSw
    go_simp
  try simp only [List.getElem_toArray, List.getElem_cons_succ, List.getElem_cons_zero, Act.put, List.setIfInBounds_toArray, List.set_cons_zero, List.set_cons_succ]
  refine wpAnyH_take (i := 7) (v := .bool true) rfl (by kernel_rfl) (by kernel_rfl) (by kernel_rfl) (fun _ _ _ h => h) (Or.inl ⟨by kernel_rfl, ?_⟩) hS ?_
  · intro w hSw
    go_simp
  try simp only [List.getElem_toArray, List.getElem_cons_succ, List.getElem_cons_zero, Act.put, List.setIfInBounds_toArray, List.set_cons_zero, List.set_cons_succ]
  refine wpAnyH_take (i := 8) (v := .bool true) rfl (by kernel_rfl) (by kernel_rfl) (by kernel_rfl) (fun _ _ _ h => h) (Or.inl ⟨by kernel_rfl, ?_⟩) hS ?_
  · intro w hSw
    go_simp
  try simp only [List.getElem_toArray, List.getElem_cons_succ, List.getElem_cons_zero, Act.put, List.setIfInBounds_toArray, List.set_cons_zero, List.set_cons_succ]
  refine wpAnyH_take (i := 9) (v := .int .i64 3) rfl (by kernel_rfl) (by kernel_rfl) (by kernel_rfl) (fun _ _ _ h => h) (Or.inl ⟨by kernel_rfl, ?_⟩) hS ?_
  · intro w hSw
    have e0 := (hSw.cell (p := ⟨gs, 0, none⟩) hgs).trans s0
    clear n0 n1 n2 m0 m1 m2 s0
    go_simp
  try simp only [List.getElem_toArray, List.getElem_cons_succ, List.getElem_cons_zero, Act.put, List.setIfInBounds_toArray, List.set_cons_zero, List.set_cons_succ]
  refine wpAnyH_take (i := 10) (v := .bool true) rfl (by kernel_rfl) (by kernel_rfl) (by kernel_rfl) (fun _ _ _ h => h) (Or.inl ⟨by kernel_rfl, ?_⟩) hS ?_
  · intro w hSw
    go_simp
  try simp only [List.getElem_toArray, List.getElem_cons_succ, List.getElem_cons_zero, Act.put, List.setIfInBounds_toArray, List.set_cons_zero, List.set_cons_succ]
  refine wpAnyH_take (i := 11) (v := .bool true) rfl (by kernel_rfl) (by kernel_rfl) (by kernel_rfl) (fun _ _ _ h => h) (Or.inl ⟨by kernel_rfl, ?_⟩) hS ?_
  · intro w hSw
    go_simp
  try simp only [List.getElem_toArray, List.getElem_cons_succ, List.getElem_cons_zero, Act.put, List.setIfInBounds_toArray, List.set_cons_zero, List.set_cons_succ]
  refine wpAnyH_take (i := 12) (v := .bool true) rfl (by kernel_rfl) (by kernel_rfl) (by kernel_rfl) (fun _ _ _ h => h) (Or.inl ⟨by kernel_rfl, ?_⟩) hS ?_
  · intro w hSw
    go_simp
  try simp only [List.getElem_toArray, List.getElem_cons_succ, List.getElem_cons_zero, Act.put, List.setIfInBounds_toArray, List.set_cons_zero, List.set_cons_succ]
  refine wpAnyH_take (i := 13) (v := .agg #[.int .i64 24, .int .i64 1, .slice (some ⟨gk, 0, none⟩) 2 2]) rfl (by kernel_rfl) (by kernel_rfl) (by kernel_rfl) (fun _ _ _ h => h) (Or.inl ⟨by kernel_rfl, ?_⟩) hS ?_
  · intro w hSw
    have e0 := (hSw.cell (p := ⟨gn, 0, none⟩) hgn).trans n0
    have e1 := (hSw.cell (p := ⟨gn, 1, none⟩) hgn).trans n1
    have e2 := (hSw.cell (p := ⟨gn, 2, none⟩) hgn).trans n2
    clear n0 n1 n2 m0 m1 m2 s0
    go_simp
  try simp only [List.getElem_toArray, List.getElem_cons_succ, List.getElem_cons_zero, Act.put, List.setIfInBounds_toArray, List.set_cons_zero, List.set_cons_succ]
  refine wpAnyH_ready (rs := [14]) (by kernel_rfl) (by decide) ?_
  refine AllReadyH.cons rfl (fun K' hK => ?_) AllReadyH.nil
  rw [if_pos (by kernel_rfl)]
  refine oper_call (run_call2 cf_ndFind) ((ndFind_any 24 1 2 _ 2 2 tc WD (hsl.below hS) (by decide)).mono ?_)
  rintro e WX ⟨L, aL, cL, rfl, hL, hslL, hbX⟩
  obtain rfl : L = [⟨21, 2, .nil⟩] := hL.trans (by kernel_rfl)
  have hS' : RowKit.Below W2.heap.size W2 WX := hS.trans (hbX.mono hS.size)
  clear hslL
  refine ⟨_, rfl, hK.out _ _ hS' (fun _ => ?_)⟩
  clear hK K' hS
  have hS := hS'
  clear hS'
  generalize WX = WD at *
  try simp only [List.getElem_toArray, List.getElem_cons_succ, List.getElem_cons_zero, Act.put, List.setIfInBounds_toArray, List.set_cons_zero, List.set_cons_succ]
  refine wpAnyH_take (i := 15) (v := .int .i64 1) rfl (by kernel_rfl) (by kernel_rfl) (by kernel_rfl) (fun _ _ _ h => h) (Or.inl ⟨by kernel_rfl, ?_⟩) hS ?_
  · intro w hSw
    go_simp
    rfl
  try simp only [List.getElem_toArray, List.getElem_cons_succ, List.getElem_cons_zero, Act.put, List.setIfInBounds_toArray, List.set_cons_zero, List.set_cons_succ]
  refine wpAnyH_take (i := 16) (v := .bool true) rfl (by kernel_rfl) (by kernel_rfl) (by kernel_rfl) (fun _ _ _ h => h) (Or.inl ⟨by kernel_rfl, ?_⟩) hS ?_
  · intro w hSw
    go_simp
  try simp only [List.getElem_toArray, List.getElem_cons_succ, List.getElem_cons_zero, Act.put, List.setIfInBounds_toArray, List.set_cons_zero, List.set_cons_succ]
  refine wpAnyH_take (i := 17) (v := .bool true) rfl (by kernel_rfl) (by kernel_rfl) (by kernel_rfl) (fun _ _ _ h => h) (Or.inl ⟨by kernel_rfl, ?_⟩) hS ?_
  · intro w hSw
    go_simp
  try simp only [List.getElem_toArray, List.getElem_cons_succ, List.getElem_cons_zero, Act.put, List.setIfInBounds_toArray, List.set_cons_zero, List.set_cons_succ]
  refine wpAnyH_take (i := 18) (v := .bool true) rfl (by kernel_rfl) (by kernel_rfl) (by kernel_rfl) (fun _ _ _ h => h) (Or.inl ⟨by kernel_rfl, ?_⟩) hS ?_
  · intro w hSw
    go_simp
  try simp only [List.getElem_toArray, List.getElem_cons_succ, List.getElem_cons_zero, Act.put, List.setIfInBounds_toArray, List.set_cons_zero, List.set_cons_succ]
  refine wpAnyH_take (i := 19) (v := .agg #[.int .i64 24, .int .i64 1, .slice (some ⟨gk, 0, none⟩) 2 2]) rfl (by kernel_rfl) (by kernel_rfl) (by kernel_rfl) (fun _ _ _ h => h) (Or.inl ⟨by kernel_rfl, ?_⟩) hS ?_
  · intro w hSw
    have e0 := (hSw.cell (p := ⟨gn, 0, none⟩) hgn).trans n0
    have e1 := (hSw.cell (p := ⟨gn, 1, none⟩) hgn).trans n1
    have e2 := (hSw.cell (p := ⟨gn, 2, none⟩) hgn).trans n2
    clear n0 n1 n2 m0 m1 m2 s0
    go_simp
  try simp only [List.getElem_toArray, List.getElem_cons_succ, List.getElem_cons_zero, Act.put, List.setIfInBounds_toArray, List.set_cons_zero, List.set_cons_succ]
  refine wpAnyH_take (i := 20) (v := .agg #[.int .i64 24, .int .i64 1, .slice (some ⟨gk, 0, none⟩) 2 2]) rfl (by kernel_rfl) (by kernel_rfl) (by kernel_rfl) (fun _ _ _ h => h) (Or.inl ⟨by kernel_rfl, ?_⟩) hS ?_
  · intro w hSw
    have e0 := (hSw.cell (p := ⟨gn, 0, none⟩) hgn).trans n0
    have e1 := (hSw.cell (p := ⟨gn, 1, none⟩) hgn).trans n1
    have e2 := (hSw.cell (p := ⟨gn, 2, none⟩) hgn).trans n2
    clear n0 n1 n2 m0 m1 m2 s0
    go_simp
  try simp only [List.getElem_toArray, List.getElem_cons_succ, List.getElem_cons_zero, Act.put, List.setIfInBounds_toArray, List.set_cons_zero, List.set_cons_succ]
  refine wpAnyH_ready (rs := [21]) (by kernel_rfl) (by decide) ?_
  refine AllReadyH.cons rfl (fun K' hK => ?_) AllReadyH.nil
  rw [if_pos (by kernel_rfl)]
  refine oper_call (run_call2 cf_ndEq) ((ndEq_any 24 1 24 1 _ _ 2 2 2 2 tc tc WD (hsl.below hS) (hsl.below hS) (by decide)).mono ?_)
  rintro e WX ⟨he, hbX⟩
  obtain rfl : e = .returned (.bool true) := he.trans (by kernel_rfl)
  have hS' : RowKit.Below W2.heap.size W2 WX := hS.trans (hbX.mono hS.size)
  refine ⟨_, rfl, hK.out _ _ hS' (fun _ => ?_)⟩
  clear hK K' hS
  have hS := hS'
  clear hS'
  generalize WX = WD at *
  try simp only [List.getElem_toArray, List.getElem_cons_succ, List.getElem_cons_zero, Act.put, List.setIfInBounds_toArray, List.set_cons_zero, List.set_cons_succ]
  refine wpAnyH_take (i := 22) (v := .bool true) rfl (by kernel_rfl) (by kernel_rfl) (by kernel_rfl) (fun _ _ _ h => h) (Or.inl ⟨by kernel_rfl, ?_⟩) hS ?_
  · intro w hSw
    go_simp
  try simp only [List.getElem_toArray, List.getElem_cons_succ, List.getElem_cons_zero, Act.put, List.setIfInBounds_toArray, List.set_cons_zero, List.set_cons_succ]
  refine wpAnyH_take (i := 23) (v := .bool true) rfl (by kernel_rfl) (by kernel_rfl) (by kernel_rfl) (fun _ _ _ h => h) (Or.inl ⟨by kernel_rfl, ?_⟩) hS ?_
  · intro w hSw
    go_simp
  try simp only [List.getElem_toArray, List.getElem_cons_succ, List.getElem_cons_zero, Act.put, List.setIfInBounds_toArray, List.set_cons_zero, List.set_cons_succ]
  refine wpAnyH_take (i := 24) (v := .agg #[.int .i64 24, .int .i64 1, .slice (some ⟨gk, 0, none⟩) 2 2]) rfl (by kernel_rfl) (by kernel_rfl) (by kernel_rfl) (fun _ _ _ h => h) (Or.inl ⟨by kernel_rfl, ?_⟩) hS ?_
  · intro w hSw
    have e0 := (hSw.cell (p := ⟨gn, 0, none⟩) hgn).trans n0
    have e1 := (hSw.cell (p := ⟨gn, 1, none⟩) hgn).trans n1
    have e2 := (hSw.cell (p := ⟨gn, 2, none⟩) hgn).trans n2
    clear n0 n1 n2 m0 m1 m2 s0
    go_simp
  try simp only [List.getElem_toArray, List.getElem_cons_succ, List.getElem_cons_zero, Act.put, List.setIfInBounds_toArray, List.set_cons_zero, List.set_cons_succ]
  refine wpAnyH_take (i := 25) (v := .pointer (some ⟨gn, 2, none⟩)) rfl (by kernel_rfl) (by kernel_rfl) (by kernel_rfl) (fun _ _ _ h => h) (Or.inl ⟨by kernel_rfl, ?_⟩) hS ?_
  · intro w hSw
    go_simp
  try simp only [List.getElem_toArray, List.getElem_cons_succ, List.getElem_cons_zero, Act.put, List.setIfInBounds_toArray, List.set_cons_zero, List.set_cons_succ]
  refine wpAnyH_take (i := 26) (v := .slice (some ⟨gk, 0, none⟩) 2 2) rfl (by kernel_rfl) (by kernel_rfl) (by kernel_rfl) (fun _ _ _ h => h) (Or.inl ⟨by kernel_rfl, ?_⟩) hS ?_
  · intro w hSw
    have e2 := (hSw.cell (p := ⟨gn, 2, none⟩) hgn).trans n2
    clear n0 n1 n2 m0 m1 m2 s0
    go_simp
  try simp only [List.getElem_toArray, List.getElem_cons_succ, List.getElem_cons_zero, Act.put, List.setIfInBounds_toArray, List.set_cons_zero, List.set_cons_succ]
  refine wpAnyH_take (i := 27) (v := .pointer (some ⟨gk, 0, none⟩)) rfl (by kernel_rfl) (by kernel_rfl) (by kernel_rfl) (fun _ _ _ h => h) (Or.inl ⟨by kernel_rfl, ?_⟩) hS ?_
  · intro w hSw
    go_simp
  try simp only [List.getElem_toArray, List.getElem_cons_succ, List.getElem_cons_zero, Act.put, List.setIfInBounds_toArray, List.set_cons_zero, List.set_cons_succ]
  refine wpAnyH_take (i := 28) (v := .agg #[.int .i64 20, .int .i64 0, .slice none 0 0]) rfl (by kernel_rfl) (by kernel_rfl) (by kernel_rfl) (fun _ _ _ h => h) (Or.inl ⟨by kernel_rfl, ?_⟩) hS ?_
  · intro w hSw
    have e0 := (hSw.cell (p := ⟨gk, 0, none⟩) hgk).trans m0
    have e1 := (hSw.cell (p := ⟨gk, 1, none⟩) hgk).trans m1
    have e2 := (hSw.cell (p := ⟨gk, 2, none⟩) hgk).trans m2
    clear n0 n1 n2 m0 m1 m2 s0
    go_simp
  try simp only [List.getElem_toArray, List.getElem_cons_succ, List.getElem_cons_zero, Act.put, List.setIfInBounds_toArray, List.set_cons_zero, List.set_cons_succ]
  refine wpAnyH_ready (rs := [29]) (by kernel_rfl) (by decide) ?_
  refine AllReadyH.cons rfl (fun K' hK => ?_) AllReadyH.nil
  rw [if_pos (by kernel_rfl)]
  refine oper_call (run_call2 cf_ndEq) ((ndEq_any 24 1 20 0 _ none 2 2 0 0 tc .nil WD (hsl.below hS) (sl_nil _ _ _ (Nat.zero_le _) (fun _ => rfl)) (by decide)).mono ?_)
  rintro e WX ⟨he, hbX⟩
  obtain rfl : e = .returned (.bool false) := he.trans (by kernel_rfl)
  have hS' : RowKit.Below W2.heap.size W2 WX := hS.trans (hbX.mono hS.size)
  refine ⟨_, rfl, hK.out _ _ hS' (fun _ => ?_)⟩
  clear hK K' hS
  have hS := hS'
  clear hS'
  generalize WX = WD at *
  try simp only [List.getElem_toArray, List.getElem_cons_succ, List.getElem_cons_zero, Act.put, List.setIfInBounds_toArray, List.set_cons_zero, List.set_cons_succ]
  refine wpAnyH_take (i := 30) (v := .bool true) rfl (by kernel_rfl) (by kernel_rfl) (by kernel_rfl) (fun _ _ _ h => h) (Or.inl ⟨by kernel_rfl, ?_⟩) hS ?_
  · intro w hSw
    go_simp
  try simp only [List.getElem_toArray, List.getElem_cons_succ, List.getElem_cons_zero, Act.put, List.setIfInBounds_toArray, List.set_cons_zero, List.set_cons_succ]
  refine wpAnyH_take (i := 31) (v := .bool true) rfl (by kernel_rfl) (by kernel_rfl) (by kernel_rfl) (fun _ _ _ h => h) (Or.inl ⟨by kernel_rfl, ?_⟩) hS ?_
  · intro w hSw
    go_simp
  try simp only [List.getElem_toArray, List.getElem_cons_succ, List.getElem_cons_zero, Act.put, List.setIfInBounds_toArray, List.set_cons_zero, List.set_cons_succ]
  refine wpAnyH_take (i := 32) (v := .bool true) rfl (by kernel_rfl) (by kernel_rfl) (by kernel_rfl) (fun _ _ _ h => h) (Or.inl ⟨by kernel_rfl, ?_⟩) hS ?_
  · intro w hSw
    go_simp
  try simp only [List.getElem_toArray, List.getElem_cons_succ, List.getElem_cons_zero, Act.put, List.setIfInBounds_toArray, List.set_cons_zero, List.set_cons_succ]
  refine wpAnyH_ready (rs := [33]) (by kernel_rfl) (by decide) ?_
  refine AllReadyH.cons rfl (fun K' hK => ?_) AllReadyH.nil
  rw [if_pos (by kernel_rfl)]
  refine oper_call (run_call1 cf_ndName) ((ndName_any 24 WD (hT.of hS)).mono ?_)
  rintro e WX ⟨he, rfl⟩
  obtain rfl : e = .returned (.string ⟨#[98, 105, 110, 97, 114, 121]⟩) := he.trans (by kernel_rfl)
  have hS' := hS
  refine ⟨_, rfl, hK.out _ _ hS' (fun _ => ?_)⟩
  clear hK K' hS
  have hS := hS'
  clear hS'
  generalize WX = WD at *
  try simp only [List.getElem_toArray, List.getElem_cons_succ, List.getElem_cons_zero, Act.put, List.setIfInBounds_toArray, List.set_cons_zero, List.set_cons_succ]
  refine wpAnyH_take (i := 34) (v := .bool true) rfl (by kernel_rfl) (by kernel_rfl) (by kernel_rfl) (fun _ _ _ h => h) (Or.inl ⟨by kernel_rfl, ?_⟩) hS ?_
  · intro w hSw
    go_simp
  try simp only [List.getElem_toArray, List.getElem_cons_succ, List.getElem_cons_zero, Act.put, List.setIfInBounds_toArray, List.set_cons_zero, List.set_cons_succ]
  refine wpAnyH_take (i := 35) (v := .bool true) rfl (by kernel_rfl) (by kernel_rfl) (by kernel_rfl) (fun _ _ _ h => h) (Or.inl ⟨by kernel_rfl, ?_⟩) hS ?_
  · intro w hSw
    go_simp
  try simp only [List.getElem_toArray, List.getElem_cons_succ, List.getElem_cons_zero, Act.put, List.setIfInBounds_toArray, List.set_cons_zero, List.set_cons_succ]
  refine wpAnyH_take (i := 36) (v := .bool true) rfl (by kernel_rfl) (by kernel_rfl) (by kernel_rfl) (fun _ _ _ h => h) (Or.inl ⟨by kernel_rfl, ?_⟩) hS ?_
  · intro w hSw
    go_simp
  try simp only [List.getElem_toArray, List.getElem_cons_succ, List.getElem_cons_zero, Act.put, List.setIfInBounds_toArray, List.set_cons_zero, List.set_cons_succ]
  refine wpAnyH_ready (rs := [37]) (by kernel_rfl) (by decide) ?_
  refine AllReadyH.cons rfl (fun K' hK => ?_) AllReadyH.nil
  rw [if_pos (by kernel_rfl)]
  refine oper_call (run_call1 cf_ndName) ((ndName_any 0 WD (hT.of hS)).mono ?_)
  rintro e WX ⟨he, rfl⟩
  obtain rfl : e = .returned (.string ⟨#[]⟩) := he.trans (by kernel_rfl)
  have hS' := hS
  refine ⟨_, rfl, hK.out _ _ hS' (fun _ => ?_)⟩
  clear hK K' hS
  have hS := hS'
  clear hS'
  generalize WX = WD at *
  try simp only [List.getElem_toArray, List.getElem_cons_succ, List.getElem_cons_zero, Act.put, List.setIfInBounds_toArray, List.set_cons_zero, List.set_cons_succ]
  refine wpAnyH_take (i := 38) (v := .bool true) rfl (by kernel_rfl) (by kernel_rfl) (by kernel_rfl) (fun _ _ _ h => h) (Or.inl ⟨by kernel_rfl, ?_⟩) hS ?_
  · intro w hSw
    go_simp
  try simp only [List.getElem_toArray, List.getElem_cons_succ, List.getElem_cons_zero, Act.put, List.setIfInBounds_toArray, List.set_cons_zero, List.set_cons_succ]
  refine wpAnyH_take (i := 39) (v := .bool true) rfl (by kernel_rfl) (by kernel_rfl) (by kernel_rfl) (fun _ _ _ h => h) (Or.inl ⟨by kernel_rfl, ?_⟩) hS ?_
  · intro w hSw
    go_simp
  try simp only [List.getElem_toArray, List.getElem_cons_succ, List.getElem_cons_zero, Act.put, List.setIfInBounds_toArray, List.set_cons_zero, List.set_cons_succ]
  refine wpAnyH_ready (rs := [40]) (by kernel_rfl) (by decide) ?_
  refine AllReadyH.cons rfl (fun K' hK => ?_) AllReadyH.nil
  rw [if_pos (by kernel_rfl)]
  refine oper_of_run (v := .bool true) (w' := WD) rfl ?_
  refine hK.out _ _ hS (fun _ => ?_)
  clear hK K'
  try simp only [List.getElem_toArray, List.getElem_cons_succ, List.getElem_cons_zero, Act.put, List.setIfInBounds_toArray, List.set_cons_zero, List.set_cons_succ]
  refine wpAnyH_done (by kernel_rfl) ?_ _
  go_wp2
  go_ret
  exact ⟨rfl, hgk0 ▸ (unhide hbw).trans (hS.mono (unhide hbw).size)⟩
end Go.Proofs.YthnapcdanccohaaDoor

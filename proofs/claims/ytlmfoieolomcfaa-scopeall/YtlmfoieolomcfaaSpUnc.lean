/-
  Scopes: uncover.
-/
import Derived.Test.YtlmfoieolomcfaaSpAdd
namespace Go.Proofs.Ytlmfoieolomcfaa
open Go.RowKit Go.Maps Go.Lib Go.WideMaps
set_option linter.unusedSimpArgs false
set_option linter.unusedVariables false
def EBlk (w : World) (b : Nat) (e : En) : Prop := w.heap[b]? = some (.cells #[.string e.n, .int .i64 e.f, .int .i64 e.t, .int .i64 e.k, .int .i64 e.o] 50 (0, 0))
theorem EBlk.cells {w : World} {b : Nat} {e : En} (h : EBlk w b e) : w.cell? ⟨b, 0, none⟩ = some (.string e.n) ∧ w.cell? ⟨b, 1, none⟩ = some (.int .i64 e.f) ∧ w.cell? ⟨b, 2, none⟩ = some (.int .i64 e.t) ∧ w.cell? ⟨b, 3, none⟩ = some (.int .i64 e.k) ∧ w.cell? ⟨b, 4, none⟩ = some (.int .i64 e.o) := by
  unfold EBlk at h
  refine ⟨?_, ?_, ?_, ?_, ?_⟩ <;> simp [World.cell?, h]
set_option maxHeartbeats 2000000 in
set_option maxRecDepth 100000 in
theorem uncover_any {w : World} {g b m : Nat} {ve vb : Value} {f : ByteArray → Int} (hS : Blk3 w g ve vb (some b)) (hM : MapF w b m f) (e : En) (hn : e.n.size ≤ 1000) (ho : -1 ≤ e.o) (ho2 : e.o ≤ 1000000) (hm : m ≤ 1000000) :
    Calls Try.prog 17 #[.pointer (some ⟨g, 0, none⟩), .agg #[.string e.n, .int .i64 e.f, .int .i64 e.t, .int .i64 e.k, .int .i64 e.o]] w fun x w' => x = .returned (.tuple #[]) ∧ MapF w' b (m + 1) (fun t => if e.n = t then e.o else f t) ∧ Kp (fun x => x = b) w w' := by
  have hb0 := below_alloc w (.cells #[.string e.n, .int .i64 e.f, .int .i64 e.t, .int .i64 e.k, .int .i64 e.o] 50 (0, 0))
  have hE0 : EBlk (w.alloc (.cells #[.string e.n, .int .i64 e.f, .int .i64 e.t, .int .i64 e.k, .int .i64 e.o] 50 (0, 0))) w.heap.size e := heap_alloc_new w _
  have hS0 : Blk3 (w.alloc (.cells #[.string e.n, .int .i64 e.f, .int .i64 e.t, .int .i64 e.k, .int .i64 e.o] 50 (0, 0))) g ve vb (some b) := hS.grown (grown_alloc w _) (by simp)
  replace hM : MapF (w.alloc (.cells #[.string e.n, .int .i64 e.f, .int .i64 e.t, .int .i64 e.k, .int .i64 e.o] 50 (0, 0))) b m f := hM.kept ((grown_alloc w _).block b hM.lt (by simp))
  have hK0 : Kp (fun x => x = b) w (w.alloc (.cells #[.string e.n, .int .i64 e.f, .int .i64 e.t, .int .i64 e.k, .int .i64 e.o] 50 (0, 0))) := Kp.of_below hb0
  obtain ⟨u0, u1, u2, u3, u4⟩ := hE0.cells
  clear hb0 hS
  generalize hq_W : w.alloc (.cells #[.string e.n, .int .i64 e.f, .int .i64 e.t, .int .i64 e.k, .int .i64 e.o] 50 (0, 0)) = W0 at *
  obtain ⟨ge, hge⟩ : ∃ x, w.heap.size = x := ⟨_, rfl⟩
  rw [hge] at hE0 u0 u1 u2 u3 u4
  by_cases hneg : e.o < 0
  · go_enter Try.func17, Try.ntmps17
    go_wp2
    clear hq_W u0 u1 u2 u3 u4
    refine wp_region_D (fun w' => Blk3 w' g ve vb (some b) ∧ EBlk w' ge e) (fun j => [6].contains j) (by kernel_rfl) ?_
    have hS : Blk3 W0.drew g ve vb (some b) ∧ EBlk W0.drew ge e := ⟨hS0, hE0⟩
    replace hM : MapF W0.drew b m f := hM
    replace hK0 : Kp (fun x => x = b) w W0.drew := hK0.drew
    clear hS0 hE0
    generalize World.drew W0 = W at *
    refine wpAnyD_takeC (i := 0) (v := .pointer (some ⟨g, 0, none⟩)) [6] (fun _ => rfl) rfl (by kernel_rfl) 8 (by kernel_rfl) rfl (by kernel_rfl) (by kernel_rfl) (by kernel_rfl) (fun _ _ _ h => h) (Or.inl ⟨by kernel_rfl, ?_⟩) hS ?_
    · intro w hSw; go_simp
    try simp only [List.getElem_toArray, List.getElem_cons_succ, List.getElem_cons_zero, Act.put, List.setIfInBounds_toArray, List.set_cons_zero, List.set_cons_succ]
    refine wpAnyD_takeC (i := 1) (v := .pointer (some ⟨g, 0, none⟩)) [6] (fun _ => rfl) rfl (by kernel_rfl) 8 (by kernel_rfl) rfl (by kernel_rfl) (by kernel_rfl) (by kernel_rfl) (fun _ _ _ h => h) (Or.inl ⟨by kernel_rfl, ?_⟩) hS ?_
    · intro w hSw; go_simp
    try simp only [List.getElem_toArray, List.getElem_cons_succ, List.getElem_cons_zero, Act.put, List.setIfInBounds_toArray, List.set_cons_zero, List.set_cons_succ]
    refine wpAnyD_takeC (i := 2) (v := .pointer (some ⟨g, 2, none⟩)) [6] (fun _ => rfl) rfl (by kernel_rfl) 8 (by kernel_rfl) rfl (by kernel_rfl) (by kernel_rfl) (by kernel_rfl) (fun _ _ _ h => h) (Or.inl ⟨by kernel_rfl, ?_⟩) hS ?_
    · intro w hSw; go_simp
    try simp only [List.getElem_toArray, List.getElem_cons_succ, List.getElem_cons_zero, Act.put, List.setIfInBounds_toArray, List.set_cons_zero, List.set_cons_succ]
    refine wpAnyD_takeC (i := 3) (v := .map (some b)) [6] (fun _ => rfl) rfl (by kernel_rfl) 8 (by kernel_rfl) rfl (by kernel_rfl) (by kernel_rfl) (by kernel_rfl) (fun _ _ _ h => h) (Or.inl ⟨by kernel_rfl, ?_⟩) hS ?_
    · intro w hSw; have hc := Blk3.c2 hSw.1; go_simp
    try simp only [List.getElem_toArray, List.getElem_cons_succ, List.getElem_cons_zero, Act.put, List.setIfInBounds_toArray, List.set_cons_zero, List.set_cons_succ]
    refine wpAnyD_takeC (i := 4) (v := .pointer (some ⟨ge, 0, none⟩)) [6] (fun _ => rfl) rfl (by kernel_rfl) 8 (by kernel_rfl) rfl (by kernel_rfl) (by kernel_rfl) (by kernel_rfl) (fun _ _ _ h => h) (Or.inl ⟨by kernel_rfl, ?_⟩) hS ?_
    · intro w hSw; go_simp
    try simp only [List.getElem_toArray, List.getElem_cons_succ, List.getElem_cons_zero, Act.put, List.setIfInBounds_toArray, List.set_cons_zero, List.set_cons_succ]
    refine wpAnyD_takeC (i := 5) (v := .string e.n) [6] (fun _ => rfl) rfl (by kernel_rfl) 8 (by kernel_rfl) rfl (by kernel_rfl) (by kernel_rfl) (by kernel_rfl) (fun _ _ _ h => h) (Or.inl ⟨by kernel_rfl, ?_⟩) hS ?_
    · intro w hSw; obtain ⟨e0, e1, e2, e3, e4⟩ := EBlk.cells hSw.2; go_simp
    try simp only [List.getElem_toArray, List.getElem_cons_succ, List.getElem_cons_zero, Act.put, List.setIfInBounds_toArray, List.set_cons_zero, List.set_cons_succ]
    refine wpAnyD_one (i := 6) rfl (by kernel_rfl) (fun K hK => ?_)
    replace hK := hide hK
    rw [if_pos (by kernel_rfl)]
    refine wp_mapDel (.tmp 10) (.tmp 12) rfl rfl e.n rfl e.o hM hn hneg ?_
    intro W9 hM9 hg9
    have hK9 : Kp (fun x => x = b) w W9 := hK0.grown hg9 (fun k hk => by injection hk with hk; exact .inl hk.symm)
    refine unhide hK _ _ (fun h => by cases h) ?_
    clear hK K
    try simp only [List.getElem_toArray, List.getElem_cons_succ, List.getElem_cons_zero, Act.put, List.setIfInBounds_toArray, List.set_cons_zero, List.set_cons_succ]
    refine wpAnyD_done (by kernel_rfl) ?_ _
    go_wp2
    first
      | (go_end0; exact ⟨rfl, hM9, hK9⟩)
      | (go_ret; exact ⟨rfl, hM9, hK9⟩)
      | (refine bodyPost_ret (v := .tuple #[]) (by simp [results, Try.results17, go_sem]) rfl ?_; exact ⟨rfl, hM9, hK9⟩)
      | trace_state
  · have hnn : 0 ≤ e.o := by omega
    go_enter Try.func17, Try.ntmps17
    go_wp2
    clear hq_W u0 u1 u2 u3 u4
    refine wp_region_D (fun w' => Blk3 w' g ve vb (some b) ∧ EBlk w' ge e) (fun j => [8].contains j) (by kernel_rfl) ?_
    have hS : Blk3 W0.drew g ve vb (some b) ∧ EBlk W0.drew ge e := ⟨hS0, hE0⟩
    replace hM : MapF W0.drew b m f := hM
    replace hK0 : Kp (fun x => x = b) w W0.drew := hK0.drew
    clear hS0 hE0
    generalize World.drew W0 = W at *
    refine wpAnyD_takeC (i := 0) (v := .pointer (some ⟨g, 0, none⟩)) [8] (fun _ => rfl) rfl (by kernel_rfl) 2 (by kernel_rfl) rfl (by kernel_rfl) (by kernel_rfl) (by kernel_rfl) (fun _ _ _ h => h) (Or.inl ⟨by kernel_rfl, ?_⟩) hS ?_
    · intro w hSw; go_simp
    try simp only [List.getElem_toArray, List.getElem_cons_succ, List.getElem_cons_zero, Act.put, List.setIfInBounds_toArray, List.set_cons_zero, List.set_cons_succ]
    refine wpAnyD_takeC (i := 1) (v := .pointer (some ⟨g, 0, none⟩)) [8] (fun _ => rfl) rfl (by kernel_rfl) 2 (by kernel_rfl) rfl (by kernel_rfl) (by kernel_rfl) (by kernel_rfl) (fun _ _ _ h => h) (Or.inl ⟨by kernel_rfl, ?_⟩) hS ?_
    · intro w hSw; go_simp
    try simp only [List.getElem_toArray, List.getElem_cons_succ, List.getElem_cons_zero, Act.put, List.setIfInBounds_toArray, List.set_cons_zero, List.set_cons_succ]
    refine wpAnyD_takeC (i := 2) (v := .pointer (some ⟨g, 2, none⟩)) [8] (fun _ => rfl) rfl (by kernel_rfl) 2 (by kernel_rfl) rfl (by kernel_rfl) (by kernel_rfl) (by kernel_rfl) (fun _ _ _ h => h) (Or.inl ⟨by kernel_rfl, ?_⟩) hS ?_
    · intro w hSw; go_simp
    try simp only [List.getElem_toArray, List.getElem_cons_succ, List.getElem_cons_zero, Act.put, List.setIfInBounds_toArray, List.set_cons_zero, List.set_cons_succ]
    refine wpAnyD_takeC (i := 3) (v := .map (some b)) [8] (fun _ => rfl) rfl (by kernel_rfl) 2 (by kernel_rfl) rfl (by kernel_rfl) (by kernel_rfl) (by kernel_rfl) (fun _ _ _ h => h) (Or.inl ⟨by kernel_rfl, ?_⟩) hS ?_
    · intro w hSw; have hc := Blk3.c2 hSw.1; go_simp
    try simp only [List.getElem_toArray, List.getElem_cons_succ, List.getElem_cons_zero, Act.put, List.setIfInBounds_toArray, List.set_cons_zero, List.set_cons_succ]
    refine wpAnyD_takeC (i := 4) (v := .pointer (some ⟨ge, 0, none⟩)) [8] (fun _ => rfl) rfl (by kernel_rfl) 2 (by kernel_rfl) rfl (by kernel_rfl) (by kernel_rfl) (by kernel_rfl) (fun _ _ _ h => h) (Or.inl ⟨by kernel_rfl, ?_⟩) hS ?_
    · intro w hSw; go_simp
    try simp only [List.getElem_toArray, List.getElem_cons_succ, List.getElem_cons_zero, Act.put, List.setIfInBounds_toArray, List.set_cons_zero, List.set_cons_succ]
    refine wpAnyD_takeC (i := 5) (v := .string e.n) [8] (fun _ => rfl) rfl (by kernel_rfl) 2 (by kernel_rfl) rfl (by kernel_rfl) (by kernel_rfl) (by kernel_rfl) (fun _ _ _ h => h) (Or.inl ⟨by kernel_rfl, ?_⟩) hS ?_
    · intro w hSw; obtain ⟨e0, e1, e2, e3, e4⟩ := EBlk.cells hSw.2; go_simp
    try simp only [List.getElem_toArray, List.getElem_cons_succ, List.getElem_cons_zero, Act.put, List.setIfInBounds_toArray, List.set_cons_zero, List.set_cons_succ]
    refine wpAnyD_takeC (i := 6) (v := .pointer (some ⟨ge, 4, none⟩)) [8] (fun _ => rfl) rfl (by kernel_rfl) 2 (by kernel_rfl) rfl (by kernel_rfl) (by kernel_rfl) (by kernel_rfl) (fun _ _ _ h => h) (Or.inl ⟨by kernel_rfl, ?_⟩) hS ?_
    · intro w hSw; go_simp
    try simp only [List.getElem_toArray, List.getElem_cons_succ, List.getElem_cons_zero, Act.put, List.setIfInBounds_toArray, List.set_cons_zero, List.set_cons_succ]
    refine wpAnyD_takeC (i := 7) (v := .int .i64 e.o) [8] (fun _ => rfl) rfl (by kernel_rfl) 2 (by kernel_rfl) rfl (by kernel_rfl) (by kernel_rfl) (by kernel_rfl) (fun _ _ _ h => h) (Or.inl ⟨by kernel_rfl, ?_⟩) hS ?_
    · intro w hSw; obtain ⟨e0, e1, e2, e3, e4⟩ := EBlk.cells hSw.2; go_simp
    try simp only [List.getElem_toArray, List.getElem_cons_succ, List.getElem_cons_zero, Act.put, List.setIfInBounds_toArray, List.set_cons_zero, List.set_cons_succ]
    refine wpAnyD_one (i := 8) rfl (by kernel_rfl) (fun K hK => ?_)
    replace hK := hide hK
    rw [if_pos (by kernel_rfl)]
    refine wp_mapPut (.tmp 16) (.tmp 18) (.tmp 20) rfl rfl e.n rfl e.o rfl hM hn hnn ho2 hm ?_
    intro W9 hM9 hg9
    have hK9 : Kp (fun x => x = b) w W9 := hK0.grown hg9 (fun k hk => by injection hk with hk; exact .inl hk.symm)
    refine unhide hK _ _ (fun h => by cases h) ?_
    clear hK K
    try simp only [List.getElem_toArray, List.getElem_cons_succ, List.getElem_cons_zero, Act.put, List.setIfInBounds_toArray, List.set_cons_zero, List.set_cons_succ]
    refine wpAnyD_done (by kernel_rfl) ?_ _
    go_wp2
    first
      | (go_end0; exact ⟨rfl, hM9, hK9⟩)
      | (go_ret; exact ⟨rfl, hM9, hK9⟩)
      | (refine bodyPost_ret (v := .tuple #[]) (by simp [results, Try.results17, go_sem]) rfl ?_; exact ⟨rfl, hM9, hK9⟩)
      | trace_state
end Go.Proofs.Ytlmfoieolomcfaa

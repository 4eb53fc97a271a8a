/-
  Scopes: Pop in one, New, Deep; those of a nil one.
-/
import Derived.Test.YtlmfoieolomcfaaSpPop
namespace Go.Proofs.Ytlmfoieolomcfaa
open Go.RowKit Go.Maps Go.Lib Go.WideMaps
set_option linter.unusedSimpArgs false
set_option linter.unusedVariables false
theorem pop_last {w : World} {g : Nat} {S : Nat → Prop} {es : List En} {bs : List Nat} {b0 : Nat} {q : Nat} (h : ScQ w g S es (bs ++ [b0]) q) (hq : q ≤ 900) :
    Calls Try.prog 11 #[.pointer (some ⟨g, 0, none⟩)] w fun e w' => e = .returned (.bool true) ∧ ResS w g S (es.take b0) bs q w' := by
  obtain ⟨ve, vb, mo, h⟩ := h
  obtain ⟨ae, ce, rfl, h1, h2⟩ := own_form h.ens
  have hb := h.bgs
  unfold OwnB at hb
  rw [List.length_append] at hb
  obtain ⟨ab, cb, rfl, _⟩ := own_form hb
  have hle : b0 ≤ es.length := h.inv.le b0 (by simp)
  by_cases hlt : b0 < es.length
  · obtain ⟨z, c, e, _⟩ := own_cell h.ens (by omega)
    injection e with e1 e2 e3
    subst e1 e3
    exact pop_down h hq hlt
  · have hb0 : b0 = es.length := by omega
    subst hb0
    by_cases hc : ce = es.length
    · subst hc
      exact pop_full h hq
    · exact pop_bare h hq hc
theorem deepQ_any {w : World} {g : Nat} {S : Nat → Prop} {es : List En} {bs : List Nat} {q : Nat} (h : ScQ w g S es bs q) (hq : q ≤ 900) :
    Calls Try.prog 15 #[.pointer (some ⟨g, 0, none⟩)] w fun e w' => e = .returned (.int .i64 (bs.length + 1)) ∧ w' = w := by
  obtain ⟨ve, vb, mo, h⟩ := h
  exact deep_any h (by omega)
theorem findQ_any {w : World} {g : Nat} {S : Nat → Prop} {es : List En} {bs : List Nat} {q : Nat} (h : ScQ w g S es bs q) (s : ByteArray) (hs : s.size ≤ 1000) (hq : q ≤ 900) :
    Calls Try.prog 13 #[.pointer (some ⟨g, 0, none⟩), .string s] w fun e w' => e = .returned (fndV (fnd s es 0)) ∧ Below w.heap.size w w' := by
  obtain ⟨ve, vb, mo, h⟩ := h
  exact find_any h s hs (by omega)
theorem hereQ_any {w : World} {g : Nat} {S : Nat → Prop} {es : List En} {bs : List Nat} {q : Nat} (h : ScQ w g S es bs q) (s : ByteArray) (hs : s.size ≤ 1000) (hq : q ≤ 900) :
    Calls Try.prog 14 #[.pointer (some ⟨g, 0, none⟩), .string s] w fun e w' => e = .returned (fndV (fnd s es (beg bs))) ∧ Below w.heap.size w w' := by
  obtain ⟨ve, vb, mo, h⟩ := h
  exact here_any h s hs (by omega)
set_option maxHeartbeats 1000000 in
theorem new_any (w : World) : Calls Try.prog 8 #[] w fun e w' => e = .returned (.pointer (some ⟨w.heap.size, 0, none⟩)) ∧ ScQ w' w.heap.size (fun x => x = w.heap.size) [] [] 0 ∧ Below w.heap.size w w' := by
  have hS : Blk3 (w.alloc (.cells #[.slice none 0 0, .slice none 0 0, .map none] 48 (0, 0))) w.heap.size (.slice none 0 0) (.slice none 0 0) none := heap_alloc_new w _
  have hb := below_alloc w (.cells #[.slice none 0 0, .slice none 0 0, .map none] 48 (0, 0))
  have hfin : ScQ (w.alloc (.cells #[.slice none 0 0, .slice none 0 0, .map none] 48 (0, 0))) w.heap.size (fun x => x = w.heap.size) [] [] 0 :=
    ⟨_, _, _, ⟨hS, World.ownsRow_nil _ _ _ _, World.ownsRow_nil _ _ _ _, rfl, rfl, fun k hk => (by cases hk), fun k hk => (by cases hk), fun k hk => (by cases hk), fun k hk => (by subst hk; simp), inv_nil, ⟨(by simp), (by simp)⟩, fun e he => (by cases he)⟩⟩
  replace hfin := hide hfin
  replace hb := hide hb
  clear hS
  go_enter Try.func8, Try.ntmps8
  go_wp2
  go_ret
  exact ⟨rfl, unhide hfin, unhide hb⟩
theorem pushN_any (w : World) : Calls Try.prog 10 #[.pointer none] w fun e w' => e = .returned (.tuple #[]) ∧ w' = w := by
  go_enter Try.func10, Try.ntmps10
  go_wp2
  first
    | (go_end0; exact ⟨rfl, rfl⟩)
    | (refine bodyPost_ret (v := .tuple #[]) (by simp [results, Try.results10, go_sem]) rfl ?_; exact ⟨rfl, rfl⟩)
theorem placeN_any (s : ByteArray) (w : World) : Calls Try.prog 18 #[.pointer none, .string s] w fun e w' => e = .returned (.int .i64 (-1)) ∧ w' = w := by
  go_enter Try.func18, Try.ntmps18
  go_wp2
  go_ret
  exact ⟨rfl, rfl⟩
theorem deepN_any (w : World) : Calls Try.prog 15 #[.pointer none] w fun e w' => e = .returned (.int .i64 0) ∧ w' = w := by
  go_enter Try.func15, Try.ntmps15
  go_wp2
  go_ret
  exact ⟨rfl, rfl⟩
theorem popN_any (w : World) : Calls Try.prog 11 #[.pointer none] w fun e w' => e = .returned (.bool false) ∧ w' = w := by
  have hd := hide (deepN_any w)
  go_enter Try.func11, Try.ntmps11
  go_wp2_with fail
  refine (unhide hd).mono ?_
  rintro e w1 ⟨rfl, rfl⟩
  go_wp2
  go_ret
  exact ⟨rfl, rfl⟩
theorem addN_any (s : ByteArray) (f t k : Int) (w : World) : Calls Try.prog 12 #[.pointer none, .string s, .agg #[.int .i64 f, .int .i64 t, .int .i64 k]] w fun e w' => e = .returned (.bool false) ∧ Below w.heap.size w w' := by
  have hb := hide (below_alloc w (.cells #[.int .i64 f, .int .i64 t, .int .i64 k] 34 (0, 0)))
  go_enter Try.func12, Try.ntmps12
  go_wp2
  go_ret
  exact ⟨rfl, unhide hb⟩
set_option maxHeartbeats 1000000 in
theorem findN_any (s : ByteArray) (w : World) : Calls Try.prog 13 #[.pointer none, .string s] w fun e w' => e = .returned (fndV none) ∧ Below w.heap.size w w' := by
  have hb0 := below_alloc w (.cells #[.int .i64 0, .int .i64 0, .int .i64 0] 34 (0, 0))
  have hD : DBlk (w.alloc (.cells #[.int .i64 0, .int .i64 0, .int .i64 0] 34 (0, 0))) w.heap.size 0 0 0 := heap_alloc_new w _
  have hP := hide (placeN_any s (w.alloc (.cells #[.int .i64 0, .int .i64 0, .int .i64 0] 34 (0, 0))))
  obtain ⟨hd0, hd1, hd2⟩ := hD.cells
  have hf := hD.fr
  have hfin := fun f t k => (hD.set3 f t k).cells
  have hbf := fun f t k => below_set3d (f' := f) (t' := t) (k' := k) hb0 (Nat.le_refl _)
  dsimp only [fndV]
  generalize hq_W : w.alloc (.cells #[.int .i64 0, .int .i64 0, .int .i64 0] 34 (0, 0)) = W at *
  have f0 := hf 0
  have f1 := hf 1
  have f2 := hf 2
  replace hfin := hide hfin
  replace hbf := hide hbf
  clear hD hf hb0
  go_enter Try.func13, Try.ntmps13
  go_wp2_with fail
  refine (unhide hP).mono ?_
  rintro e w1 ⟨rfl, rfl⟩
  go_wp2
  obtain ⟨u0, u1, u2⟩ := unhide hfin 0 0 0
  refine bodyPost_ret (v := .tuple #[.agg #[.int .i64 0, .int .i64 0, .int .i64 0], .bool false]) (by simp [results, Try.results13, go_sem, u0, u1, u2]) rfl ⟨rfl, unhide hbf _ _ _⟩
set_option maxHeartbeats 1000000 in
theorem hereN_any (s : ByteArray) (w : World) : Calls Try.prog 14 #[.pointer none, .string s] w fun e w' => e = .returned (fndV none) ∧ Below w.heap.size w w' := by
  have hb0 := below_alloc w (.cells #[.int .i64 0, .int .i64 0, .int .i64 0] 34 (0, 0))
  have hD : DBlk (w.alloc (.cells #[.int .i64 0, .int .i64 0, .int .i64 0] 34 (0, 0))) w.heap.size 0 0 0 := heap_alloc_new w _
  have hP := hide (placeN_any s (w.alloc (.cells #[.int .i64 0, .int .i64 0, .int .i64 0] 34 (0, 0))))
  obtain ⟨hd0, hd1, hd2⟩ := hD.cells
  have hf := hD.fr
  have hfin := fun f t k => (hD.set3 f t k).cells
  have hbf := fun f t k => below_set3d (f' := f) (t' := t) (k' := k) hb0 (Nat.le_refl _)
  dsimp only [fndV]
  generalize hq_W : w.alloc (.cells #[.int .i64 0, .int .i64 0, .int .i64 0] 34 (0, 0)) = W at *
  have f0 := hf 0
  have f1 := hf 1
  have f2 := hf 2
  replace hfin := hide hfin
  replace hbf := hide hbf
  clear hD hf hb0
  go_enter Try.func14, Try.ntmps14
  go_wp2_with fail
  refine (unhide hP).mono ?_
  rintro e w1 ⟨rfl, rfl⟩
  go_wp2
  obtain ⟨u0, u1, u2⟩ := unhide hfin 0 0 0
  refine bodyPost_ret (v := .tuple #[.agg #[.int .i64 0, .int .i64 0, .int .i64 0], .bool false]) (by simp [results, Try.results14, go_sem, u0, u1, u2]) rfl ⟨rfl, unhide hbf _ _ _⟩
end Go.Proofs.Ytlmfoieolomcfaa

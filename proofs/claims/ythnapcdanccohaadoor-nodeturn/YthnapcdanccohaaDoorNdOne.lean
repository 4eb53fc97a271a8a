/-
  A block of one cell; what the functions of Count and Deep do to it; the program's Count and Deep.
-/
import Derived.Test.YthnapcdanccohaaDoorNdWkC
import Derived.Test.YthnapcdanccohaaDoorNdWkD
namespace Go.Proofs.YthnapcdanccohaaDoor
open Go.RowKit Go.Lib Go.Sort
set_option linter.unusedSimpArgs false
set_option linter.unusedVariables false
def Cell1 (w : World) (g : Nat) (ty : TypeId) (v : Value) : Prop := w.heap[g]? = some (.cells #[v] ty (0, 0))
theorem Cell1.lt {w : World} {g : Nat} {ty : TypeId} {v : Value} (h : Cell1 w g ty v) : g < w.heap.size := (Array.getElem?_eq_some_iff.1 h).1
theorem Cell1.cell {w : World} {g : Nat} {ty : TypeId} {v : Value} (h : Cell1 w g ty v) : w.cell? ⟨g, 0, none⟩ = some v := by rw [cell_of_row w g 0 _ _ _ h]; rfl
theorem Cell1.frozen {w : World} {g : Nat} {ty : TypeId} {v : Value} (h : Cell1 w g ty v) : w.frozen? ⟨g, 0, none⟩ = false := Joins.unfrozen_of_block h 0
theorem Cell1.set {w : World} {g : Nat} {ty : TypeId} {v : Value} (h : Cell1 w g ty v) (u : Value) : Cell1 (w.setCell ⟨g, 0, none⟩ u) g ty u := by
  have := Joins.block_setCell (i := 0) h u
  exact this
theorem Cell1.same {w w' : World} {g : Nat} {ty : TypeId} {v : Value} (h : Cell1 w g ty v) (e : w'.heap[g]? = w.heap[g]?) : Cell1 w' g ty v := by unfold Cell1; rw [e]; exact h
theorem Cell1.alloc {w : World} {g : Nat} {ty : TypeId} {v : Value} (h : Cell1 w g ty v) (o : Obj) : Cell1 (w.alloc o) g ty v := h.same (Below.heap_alloc _ _ _ h.lt)
theorem cell1_new (w : World) (ty : TypeId) (v : Value) : Cell1 (w.alloc (.cells #[v] ty (0, 0))) w.heap.size ty v := heap_alloc_new w _
/-- A store into one's own block. -/
theorem moves_set (w : World) (g o : Nat) (v : Value) (C : Nat → Prop) (h : C g) : Moves C C w (w.setCell ⟨g, o, none⟩ v) :=
  ⟨rfl, rfl, rfl, by simp, fun x hx hc => Below.heap_setCell _ _ _ x (fun e => hc (e ▸ h)), fun _ h => .inl h⟩
theorem moves_alloc (w : World) (o : Obj) (C : Nat → Prop) : Moves C C w (w.alloc o) := ⟨rfl, rfl, rfl, by simp, fun x hx _ => Below.heap_alloc _ _ _ hx, fun _ h => .inl h⟩
def cntR (s : Int) (_ : Nd) (_ : Nat) (s' : Int) : Prop := s' = wrap64 (s + 1)
theorem cnt_rs : ∀ (xs : List (Nd × Nat)) (s s' : Int), RS cntR s xs s' → 0 ≤ s → s + xs.length ≤ 1000000000 → s' = s + xs.length
  | [], s, s', h, h0, h1 => by have : s' = s := h; simp [this]
  | x :: xs, s, s', ⟨m, hm, h⟩, h0, h1 => by
    have : m = s + 1 := by rw [hm]; simp only [List.length_cons] at h1; unfold wrap64; omega
    subst this
    rw [cnt_rs xs (s + 1) s' h (by omega) (by simp only [List.length_cons] at h1; omega)]
    simp only [List.length_cons]
    omega
def depR (s : Int) (_ : Nd) (d : Nat) (s' : Int) : Prop := s' = max s d
theorem dep_rs : ∀ (xs : List (Nd × Nat)) (s s' : Int), RS depR s xs s' → s' = maxD s xs
  | [], s, s', h => h
  | x :: xs, s, s', ⟨m, hm, h⟩ => by rw [maxD, ← hm]; exact dep_rs xs m s' h
set_option maxHeartbeats 2000000 in
set_option maxRecDepth 100000 in
theorem count1_any (g : Nat) (s : Int) (w : World) (k t : Int) (a : Option Addr) (n cap d : Nat) (h : Cell1 w g 3 (.int .i64 s)) :
    Calls Tryd.prog 25 #[.agg #[.int .i64 k, .int .i64 t, .slice a n cap], .int .i64 d, .pointer (some ⟨g, 0, none⟩)] w fun e w' => e = .returned (.bool true) ∧ Cell1 w' g 3 (.int .i64 (wrap64 (s + 1))) ∧ Moves (fun x => x = g) (fun x => x = g) w w' := by
  have hA := h.alloc (.cells #[.int .i64 k, .int .i64 t, .slice a n cap] 26 (0, 0))
  have hc := hA.cell
  have hf := hA.frozen
  have hc0 := h.cell
  have hf0 := h.frozen
  have hS := hide ((h.set (.int .i64 (wrap64 (s + 1)))).alloc (.cells #[.int .i64 k, .int .i64 t, .slice a n cap] 26 (0, 0)))
  have hM := hide ((moves_set w g 0 (.int .i64 (wrap64 (s + 1))) (fun x => x = g) rfl).trans (moves_alloc _ (.cells #[.int .i64 k, .int .i64 t, .slice a n cap] 26 (0, 0)) _))
  have hl := h.lt
  replace h := hide h
  replace hA := hide hA
  go_enter Tryd.func25, Tryd.ntmps25
  go_wp2
  go_ret
  exact ⟨rfl, unhide hS, unhide hM⟩
set_option maxHeartbeats 2000000 in
set_option maxRecDepth 100000 in
theorem deep1_any (g : Nat) (s : Int) (w : World) (k t : Int) (a : Option Addr) (n cap d : Nat) (h : Cell1 w g 3 (.int .i64 s)) :
    Calls Tryd.prog 26 #[.agg #[.int .i64 k, .int .i64 t, .slice a n cap], .int .i64 d, .pointer (some ⟨g, 0, none⟩)] w fun e w' => e = .returned (.bool true) ∧ Cell1 w' g 3 (.int .i64 (max s d)) ∧ Moves (fun x => x = g) (fun x => x = g) w w' := by
  have hA := h.alloc (.cells #[.int .i64 k, .int .i64 t, .slice a n cap] 26 (0, 0))
  have hc := hA.cell
  have hf := hA.frozen
  have hc0 := h.cell
  have hf0 := h.frozen
  have hS := hide (fun v => (h.set v).alloc (.cells #[.int .i64 k, .int .i64 t, .slice a n cap] 26 (0, 0)))
  have hM := hide (fun v => (moves_set w g 0 v (fun x => x = g) rfl).trans (moves_alloc _ (.cells #[.int .i64 k, .int .i64 t, .slice a n cap] 26 (0, 0)) _))
  have hl := h.lt
  replace h := hide h
  replace hA := hide hA
  by_cases hsd : s < d
  · have hm : max s (d : Int) = d := by omega
    have hsd2 : ¬ (d : Int) ≤ s := by omega
    have hsd3 : ¬ (d : Int) < s := by omega
    rw [hm]
    replace hm := hide hm
    go_enter Tryd.func26, Tryd.ntmps26
    go_wp2
    go_ret
    exact ⟨rfl, unhide hS _, unhide hM _⟩
  · have hm : max s (d : Int) = s := by omega
    have hsd2 : (d : Int) ≤ s := by omega
    rw [hm]
    replace hm := hide hm
    go_enter Tryd.func26, Tryd.ntmps26
    go_wp2
    go_ret
    exact ⟨rfl, unhide hS _, unhide hM _⟩
/-- What is told of a state that is one number in a block of one's own. -/
theorem one_hI (B g : Nat) : ∀ (s : Int) (w w' : World), Cell1 w g 3 (.int .i64 s) → w.heap.size ≤ w'.heap.size → (∀ x, x < B ∨ x = g → w'.heap[x]? = w.heap[x]?) → Cell1 w' g 3 (.int .i64 s) := fun s w w' h _ hx => h.same (hx g (.inr rfl))
set_option maxHeartbeats 2000000 in
set_option maxRecDepth 100000 in
theorem ndCount_any (k t : Int) (a : Option Addr) (n cap : Nat) (c : F) (w : World) (h : Sl w a n cap c) (hN : c.size ≤ 1000000) :
    Calls Tryd.prog 10 #[.agg #[.int .i64 k, .int .i64 t, .slice a n cap]] w fun e w' => e = .returned (.int .i64 ((⟨k, t, c⟩ : Nd).size : Nat)) ∧ Below w.heap.size w w' := by
  have hb : Below w.heap.size w ((w.alloc (.cells #[.int .i64 k, .int .i64 t, .slice a n cap] 26 (0, 0))).alloc (.cells #[.int .i64 0] 3 (0, 0))) := ((Below.refl _ _).alloc (Nat.le_refl _) _).alloc (by simp) _
  have h0 : Cell1 ((w.alloc (.cells #[.int .i64 k, .int .i64 t, .slice a n cap] 26 (0, 0))).alloc (.cells #[.int .i64 0] 3 (0, 0))) (w.heap.size + 1) 3 (.int .i64 0) := by
    have := cell1_new (w.alloc (.cells #[.int .i64 k, .int .i64 t, .slice a n cap] 26 (0, 0))) 3 (.int .i64 0)
    simpa using this
  have hW := hide (walkC_any (.pointer (some ⟨w.heap.size + 1, 0, none⟩)) allA cntR (fun s W => Cell1 W (w.heap.size + 1) 3 (.int .i64 s)) (fun _ x => x = w.heap.size + 1) w 0 (one_hI _ _) (fun s W g hI hg => ⟨by omega, by rw [hg]; exact hI.lt⟩)
    (fun s W k t a n cap c d hI _ _ _ _ _ _ => (count1_any (w.heap.size + 1) s W k t a n cap d hI).mono fun e w' ⟨he, hc, hm⟩ => ⟨he, _, rfl, hc, hm⟩) k t a n cap c _ hb h0 h hN)
  have hbs := hb.size
  replace hb := hide hb
  replace h0 := hide h0
  have hsz := c.len_le_size
  go_enter Tryd.func10, Tryd.ntmps10
  go_wp2_with fail
  refine (unhide hW).mono ?_
  rintro e W2 ⟨rfl, s', hrs, hc2, hm2⟩
  have hs' := cnt_rs _ _ _ hrs (Int.le_refl 0) (by rw [visN_len]; simp only [Nd.size]; omega)
  rw [visN_len] at hs'
  have hc := hc2.cell
  have hb2 := hide ((unhide hb).trans (hm2.below (fun g hg => by omega) hbs))
  replace hs' := hide hs'
  clear hrs hc2 hm2 hW
  go_wp2
  go_ret
  exact ⟨ret_int (by rw [unhide hs']; omega), unhide hb2⟩
set_option maxHeartbeats 2000000 in
set_option maxRecDepth 100000 in
theorem ndDeep_any (k t : Int) (a : Option Addr) (n cap : Nat) (c : F) (w : World) (h : Sl w a n cap c) (hN : c.size ≤ 1000000) :
    Calls Tryd.prog 12 #[.agg #[.int .i64 k, .int .i64 t, .slice a n cap]] w fun e w' => e = .returned (.int .i64 ((⟨k, t, c⟩ : Nd).deep : Nat)) ∧ Below w.heap.size w w' := by
  have hb : Below w.heap.size w ((w.alloc (.cells #[.int .i64 k, .int .i64 t, .slice a n cap] 26 (0, 0))).alloc (.cells #[.int .i64 0] 3 (0, 0))) := ((Below.refl _ _).alloc (Nat.le_refl _) _).alloc (by simp) _
  have h0 : Cell1 ((w.alloc (.cells #[.int .i64 k, .int .i64 t, .slice a n cap] 26 (0, 0))).alloc (.cells #[.int .i64 0] 3 (0, 0))) (w.heap.size + 1) 3 (.int .i64 0) := by
    have := cell1_new (w.alloc (.cells #[.int .i64 k, .int .i64 t, .slice a n cap] 26 (0, 0))) 3 (.int .i64 0)
    simpa using this
  have hW := hide (walkD_any (.pointer (some ⟨w.heap.size + 1, 0, none⟩)) allA depR (fun s W => Cell1 W (w.heap.size + 1) 3 (.int .i64 s)) (fun _ x => x = w.heap.size + 1) w 0 (one_hI _ _) (fun s W g hI hg => ⟨by omega, by rw [hg]; exact hI.lt⟩)
    (fun s W k t a n cap c d hI _ _ _ _ _ _ => (deep1_any (w.heap.size + 1) s W k t a n cap d hI).mono fun e w' ⟨he, hc, hm⟩ => ⟨he, _, rfl, hc, hm⟩) k t a n cap c _ hb h0 h hN)
  have hbs := hb.size
  replace hb := hide hb
  replace h0 := hide h0
  have hsz := c.len_le_size
  go_enter Tryd.func12, Tryd.ntmps12
  go_wp2_with fail
  refine (unhide hW).mono ?_
  rintro e W2 ⟨rfl, s', hrs, hc2, hm2⟩
  have hs' := dep_rs _ _ _ hrs
  rw [visN_deep] at hs'
  have hc := hc2.cell
  have hb2 := hide ((unhide hb).trans (hm2.below (fun g hg => by omega) hbs))
  replace hs' := hide hs'
  clear hrs hc2 hm2 hW
  go_wp2
  go_ret
  exact ⟨ret_int (unhide hs'), unhide hb2⟩
end Go.Proofs.YthnapcdanccohaaDoor

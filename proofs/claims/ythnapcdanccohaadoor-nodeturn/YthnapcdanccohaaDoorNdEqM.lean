/-
  A pile of pairs of lists of nodes.
-/
import Derived.Test.YthnapcdanccohaaDoorNdClone
namespace Go.Proofs.YthnapcdanccohaaDoor
open Go.RowKit Go.Lib Go.Sort
set_option linter.unusedSimpArgs false
set_option linter.unusedVariables false
theorem Tryd.info43 : (Tryd.prog.info? 43).map (fun i => (i.zero, i.size, i.bytes)) = some (some (.agg #[.slice none 0 0, .slice none 0 0]), 2, 48) := by kernel_rfl
def prC (ps : List (Value × Value)) : List Value := ps.flatMap fun p => [p.1, p.2]
theorem prC_len (ps : List (Value × Value)) : (prC ps).length = ps.length * 2 := by
  induction ps with
  | nil => rfl
  | cons p ps ih => simp only [prC, List.flatMap_cons, List.length_append, List.length_cons, List.length_nil] at *; rw [ih]; omega
theorem prC_app (ps qs : List (Value × Value)) : prC (ps ++ qs) = prC ps ++ prC qs := by simp [prC]
/-- Block g is a row of pairs that begins with these. -/
def RowQ (w : World) (g cap : Nat) (ps : List (Value × Value)) : Prop :=
  ∃ cur : Array Value, w.heap[g]? = some (.cells cur 43 (0, 0)) ∧ cur.size = cap * 2 ∧ ps.length ≤ cap ∧ cap ≤ maxLen ∧ cur.toList.take (ps.length * 2) = prC ps
theorem RowQ.lt {w : World} {g cap : Nat} {ps : List (Value × Value)} (h : RowQ w g cap ps) : g < w.heap.size := by
  obtain ⟨cur, hg, _⟩ := h
  exact (Array.getElem?_eq_some_iff.1 hg).1
theorem RowQ.room {w : World} {g cap : Nat} {ps : List (Value × Value)} (h : RowQ w g cap ps) : ps.length ≤ cap ∧ cap ≤ maxLen := by
  obtain ⟨cur, hg, h1, h2, h3, _⟩ := h
  exact ⟨h2, h3⟩
theorem RowQ.own {w : World} {g cap base : Nat} {ps : List (Value × Value)} (h : RowQ w g cap ps) (hb : base ≤ g) : w.ownsRow base 43 2 (.slice (some ⟨g, 0, none⟩) ps.length cap) ps.length (prC ps) := by
  obtain ⟨cur, hg, h1, h2, h3, h4⟩ := h
  exact ⟨prC_len ps, .inr ⟨g, cap, cur, rfl, hb, hg, h2, h3, h1, h4⟩⟩
theorem RowQ.of {w : World} {g cap base n : Nat} {ps : List (Value × Value)} (hl : ps.length = n) (h : w.ownsRow base 43 2 (.slice (some ⟨g, 0, none⟩) n cap) n (prC ps)) : RowQ w g cap ps := by
  rcases h.2 with ⟨h0, _⟩ | ⟨g', cap', cur, h0, hb, hg, hnc, hcm, hcs, ht⟩
  · injection h0 with h0; cases h0
  · injection h0 with h0 h1 h2
    injection h0 with h0
    injection h0 with h0
    subst h0 h2
    exact ⟨cur, hg, hcs, by omega, hcm, by rw [hl]; exact ht⟩
theorem RowQ.cell {w : World} {g cap : Nat} {ps : List (Value × Value)} (h : RowQ w g cap ps) (j : Nat) (hj : j < ps.length * 2) : w.cell? ⟨g, j, none⟩ = (prC ps)[j]? := World.ownsRow.cellAt (h.own (Nat.zero_le g)) j hj
theorem RowQ.take {w : World} {g cap : Nat} {ps : List (Value × Value)} (h : RowQ w g cap ps) (k : Nat) : RowQ w g cap (ps.take k) := by
  obtain ⟨cur, hg, h1, h2, h3, h4⟩ := h
  refine ⟨cur, hg, h1, by simp; omega, h3, ?_⟩
  have e : prC (ps.take k) = (prC ps).take ((ps.take k).length * 2) := by
    conv => rhs; rw [← List.take_append_drop k ps, prC_app]
    rw [List.take_left' (by rw [prC_len, List.take_append_drop])]
  rw [e, ← h4, List.take_take]
  congr 1
  have : (ps.take k).length ≤ ps.length := by simp; omega
  omega
theorem RowQ.same {w w' : World} {g cap : Nat} {ps : List (Value × Value)} (h : RowQ w g cap ps) (hb : w'.heap[g]? = w.heap[g]?) : RowQ w' g cap ps := by
  obtain ⟨cur, hg, h1⟩ := h
  exact ⟨cur, by rw [hb]; exact hg, h1⟩
theorem rowQ_new (w : World) (u v : Value) : RowQ (w.alloc (.cells #[u, v] 43 (0, 0))) w.heap.size 1 [(u, v)] := ⟨#[u, v], heap_alloc_new w _, rfl, Nat.le_refl _, by unfold maxLen; simp, rfl⟩
theorem RowQ.last {w : World} {g cap m : Nat} {t : Value × Value} {ts : List (Value × Value)} (h : RowQ w g cap (t :: ts).reverse) (hm : ts.length = m) : w.cell? ⟨g, m * 2, none⟩ = some t.1 ∧ w.cell? ⟨g, m * 2 + 1, none⟩ = some t.2 := by
  have hl : (prC ts.reverse).length = m * 2 := by rw [prC_len, List.length_reverse, hm]
  have hl2 : (t :: ts).reverse.length = m + 1 := by simp [hm]
  have e : prC (t :: ts).reverse = prC ts.reverse ++ [t.1, t.2] := by rw [List.reverse_cons, prC_app]; rfl
  constructor
  · rw [h.cell _ (by omega), e, List.getElem?_append_right (by omega), hl, Nat.sub_self]; rfl
  · rw [h.cell _ (by omega), e, List.getElem?_append_right (by omega), hl, Nat.add_sub_cancel_left]; rfl
theorem RowQ.pop {w : World} {g cap : Nat} {t : Value × Value} {ts : List (Value × Value)} (h : RowQ w g cap (t :: ts).reverse) : RowQ w g cap ts.reverse := by
  have := h.take ts.length
  rwa [List.reverse_cons, List.take_left' (by simp)] at this
/-- The pairs of a pile, the topmost first. -/
def StkQ (w : World) : List (Value × Value) → List (F × F) → Prop
  | [], [] => True
  | v :: vs, f :: fs => (∃ a n cap a' cap', v = (.slice a n cap, .slice a' n cap') ∧ Sl w a n cap f.1 ∧ Sl w a' n cap' f.2) ∧ StkQ w vs fs
  | _, _ => False
theorem StkQ.len {w : World} : ∀ {vs : List (Value × Value)} {fs : List (F × F)}, StkQ w vs fs → vs.length = fs.length
  | [], [], _ => rfl
  | v :: vs, f :: fs, h => by simp only [List.length_cons]; rw [StkQ.len h.2]
  | [], _ :: _, h => h.elim
  | _ :: _, [], h => h.elim
def nu2 : List (F × F) → Nat
  | [] => 0
  | f :: fs => f.1.size + 1 + nu2 fs
theorem nu2_len : ∀ fs : List (F × F), fs.length ≤ nu2 fs
  | [] => Nat.le_refl _
  | f :: fs => by have := nu2_len fs; simp only [nu2, List.length_cons]; omega
def AllEq (fs : List (F × F)) : Prop := ∀ p ∈ fs, p.1 = p.2
theorem allEq_cons (f : F × F) (fs : List (F × F)) : AllEq (f :: fs) ↔ f.1 = f.2 ∧ AllEq fs := by simp [AllEq]
theorem NBlk.set3 {w : World} {g : Nat} {k t k' t' : Int} {a a' : Option Addr} {n cap n' cap' : Nat} (h : NBlk w g k t a n cap) : NBlk (((w.setCell ⟨g, 0, none⟩ (.int .i64 k')).setCell ⟨g, 1, none⟩ (.int .i64 t')).setCell ⟨g, 2, none⟩ (.slice a' n' cap')) g k' t' a' n' cap' := by
  have := Joins.block_setCell (i := 2) (Joins.block_setCell (i := 1) (Joins.block_setCell (i := 0) h (.int .i64 k')) (.int .i64 t')) (.slice a' n' cap')
  exact this
theorem NBlk.other3 {w : World} {g x : Nat} {k t k' t' : Int} {a a' : Option Addr} {n cap n' cap' : Nat} (h : NBlk w g k t a n cap) (hx : g ≠ x) : NBlk (((w.setCell ⟨x, 0, none⟩ (.int .i64 k')).setCell ⟨x, 1, none⟩ (.int .i64 t')).setCell ⟨x, 2, none⟩ (.slice a' n' cap')) g k t a n cap :=
  h.same (by rw [Below.heap_setCell _ _ _ g hx, Below.heap_setCell _ _ _ g hx, Below.heap_setCell _ _ _ g hx])
theorem below_set3 {B x : Nat} {a w : World} {k' t' : Int} {a' : Option Addr} {n' cap' : Nat} (h : Below B a w) (hx : B ≤ x) : Below B a (((w.setCell ⟨x, 0, none⟩ (.int .i64 k')).setCell ⟨x, 1, none⟩ (.int .i64 t')).setCell ⟨x, 2, none⟩ (.slice a' n' cap')) :=
  ((h.setCell (p := ⟨x, 0, none⟩) hx _).setCell (p := ⟨x, 1, none⟩) hx _).setCell (p := ⟨x, 2, none⟩) hx _
theorem run_alloc_node (W : World) (ev : Operand → Value) (d : Option Nat) (t : TypeId) (p : String) (af : Array Edge) (gd : Option (Nat × Bool)) :
    (execOp ev { dst := d, op := .alloc 26, type := t, pos := p, after := af, guard := gd }).run Tryd.prog W = .ok (.value (.pointer (some ⟨W.heap.size, 0, none⟩))) (W.alloc (.cells #[.int .i64 0, .int .i64 0, .slice none 0 0] 26 (0, 0))) := by
  go_simp
theorem run_store_node (W : World) (ev : Operand → Value) (d : Option Nat) (x y : Operand) (t : TypeId) (p : String) (af : Array Edge) (gd : Option (Nat × Bool)) (g : Nat) (k0 t0 k1 t1 : Int) (a0 a1 : Option Addr) (n0 c0 n1 c1 : Nat) (hN : NBlk W g k0 t0 a0 n0 c0) (hx : ev x = .pointer (some ⟨g, 0, none⟩)) (hy : ev y = .agg #[.int .i64 k1, .int .i64 t1, .slice a1 n1 c1]) :
    (execOp ev { dst := d, op := .store 26 x y, type := t, pos := p, after := af, guard := gd }).run Tryd.prog W = .ok .skip (((W.setCell ⟨g, 0, none⟩ (.int .i64 k1)).setCell ⟨g, 1, none⟩ (.int .i64 t1)).setCell ⟨g, 2, none⟩ (.slice a1 n1 c1)) := by
  obtain ⟨z0, z1, z2⟩ := hN.box
  have f0 := hN.frozen 0
  have f1 := hN.frozen 1
  have f2 := hN.frozen 2
  go_simp
theorem oper_skip {P : Program} {o : Oper} {a : Act} {w w' : World} {K : Act → World → Prop} {Q : Exit → Act → World → Prop} (h : (execOp a.eval o).run P w = .ok .skip w') (hk : K (a.put o.dst undef) w') : o.wp P a w K Q := by
  unfold Oper.wp
  rw [h]
  simpa only [Oper.upon] using hk
end Go.Proofs.YthnapcdanccohaaDoor

/-
  A token's own block, read and written.
-/
import Derived.Test.YtmapohaobinjjaaTokBegun
import Derived.Lib.SmallJoins
namespace Go.Proofs.Ytmapohaobinjjaa
open Go.RowKit
/-- Block b is a token's, this one's. -/
def Blk (w : World) (b : Nat) (t : Tk) : Prop := w.heap[b]? = some (t.obj (0, 0))
theorem Blk.lt {w : World} {b : Nat} {t : Tk} (h : Blk w b t) : b < w.heap.size := (Array.getElem?_eq_some_iff.1 h).1
theorem Blk.box {w : World} {b : Nat} {t : Tk} (h : Blk w b t) : Box w b t :=
  ⟨Joins.cell_of_block h 0, Joins.cell_of_block h 1, Joins.cell_of_block h 2, Joins.cell_of_block h 3, Joins.cell_of_block h 4⟩
theorem Blk.frozen {w : World} {b : Nat} {t : Tk} (h : Blk w b t) (i : Nat) : w.frozen? ⟨b, i, none⟩ = false := Joins.unfrozen_of_block h i
theorem Blk.below {w w' : World} {b B : Nat} {t : Tk} (h : Blk w b t) (hb : Below B w w') (hB : b < B) : Blk w' b t := (hb.block b hB).trans h
theorem Blk.alloc (w : World) (t : Tk) : Blk (w.alloc (t.obj (0, 0))) w.heap.size t := by
  show (w.heap.push _)[w.heap.size]? = _
  simp
/-- A token stored into a token's block. -/
def setTk (w : World) (b : Nat) (t : Tk) : World := ((((w.setCell ⟨b, 0, none⟩ (.int .i64 t.k)).setCell ⟨b, 1, none⟩ (.string t.s)).setCell ⟨b, 2, none⟩ (.int .i64 t.p)).setCell ⟨b, 3, none⟩ (.int .i64 t.l)).setCell ⟨b, 4, none⟩ (.bool t.q)
theorem Blk.set {w : World} {b : Nat} {t : Tk} (h : Blk w b t) (u : Tk) : Blk (setTk w b u) b u := by
  have h0 := Joins.block_setCell (i := 0) h (.int .i64 u.k)
  have h1 := Joins.block_setCell (i := 1) h0 (.string u.s)
  have h2 := Joins.block_setCell (i := 2) h1 (.int .i64 u.p)
  have h3 := Joins.block_setCell (i := 3) h2 (.int .i64 u.l)
  have h4 := Joins.block_setCell (i := 4) h3 (.bool u.q)
  exact h4
theorem setTk_size (w : World) (b : Nat) (u : Tk) : (setTk w b u).heap.size = w.heap.size := by simp [setTk, World.setCell]
theorem setTk_other (w : World) (b k : Nat) (u : Tk) (h : k ≠ b) : (setTk w b u).heap[k]? = w.heap[k]? := by
  unfold setTk
  rw [Below.heap_setCell _ _ _ _ h, Below.heap_setCell _ _ _ _ h, Below.heap_setCell _ _ _ _ h, Below.heap_setCell _ _ _ _ h, Below.heap_setCell _ _ _ _ h]
theorem Blk.set_other {w : World} {b k : Nat} {t : Tk} (h : Blk w k t) (u : Tk) (hk : k ≠ b) : Blk (setTk w b u) k t := (setTk_other w b k u hk).trans h
theorem setTk_below {B : Nat} {a w : World} (h : Below B a w) {b : Nat} (hb : B ≤ b) (u : Tk) : Below B a (setTk w b u) := by
  unfold setTk
  exact ((((h.setCell hb _).setCell hb _).setCell hb _).setCell hb _).setCell hb _
/-- Three tokens laid one behind the other, and what a call leaves of them. -/
theorem blk3 (w : World) (p a b : Tk) (W : World) (hw : Below (((w.alloc (p.obj (0, 0))).alloc (a.obj (0, 0))).alloc (b.obj (0, 0))).heap.size (((w.alloc (p.obj (0, 0))).alloc (a.obj (0, 0))).alloc (b.obj (0, 0))) W) :
    Blk W w.heap.size p ∧ Blk W (w.heap.size + 1) a ∧ Blk W (w.heap.size + 1 + 1) b ∧ Below w.heap.size w W := by
  have h1 := Blk.alloc w p
  have h2 := Blk.alloc (w.alloc (p.obj (0, 0))) a
  have h3 := Blk.alloc ((w.alloc (p.obj (0, 0))).alloc (a.obj (0, 0))) b
  have h1 := h1.below (below_alloc _ (a.obj (0, 0))) h1.lt
  have h1 := h1.below (below_alloc _ (b.obj (0, 0))) h1.lt
  have h2 := h2.below (below_alloc _ (b.obj (0, 0))) h2.lt
  have h1 := h1.below hw h1.lt
  have h2 := h2.below hw h2.lt
  have h3 := h3.below hw h3.lt
  have e1 : (w.alloc (p.obj (0, 0))).heap.size = w.heap.size + 1 := by simp
  have e2 : ((w.alloc (p.obj (0, 0))).alloc (a.obj (0, 0))).heap.size = w.heap.size + 1 + 1 := by simp
  rw [e1] at h2
  rw [e2] at h3
  exact ⟨h1, h2, h3, below3 (below3 (below3 (below_alloc w _) (below_alloc _ _)) (below_alloc _ _)) hw⟩
end Go.Proofs.Ytmapohaobinjjaa

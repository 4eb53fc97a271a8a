/-
  A block that holds a token.
-/
import Derived.Test.YtakllllnpdnpdaaRet
import Derived.Test.YtakllllnpdnpdaaTokMath
namespace Go.Proofs.Ytakllllnpdnpdaa
open Go.RowKit
theorem eqT_text (s x : ByteArray) : (s.toList == x.toList) = eqT s x.data.toList := by
  rw [ByteArray.toList_eq, ByteArray.toList_eq]; rfl
theorem eqT_list (s : ByteArray) (x : List UInt8) : (s.toList == x) = eqT s x := by
  rw [ByteArray.toList_eq]; rfl
/-- The block b holds the token t. -/
def Box (w : World) (b : Nat) (t : Tk) : Prop :=
  w.cell? ⟨b, 0, none⟩ = some (.int .i64 t.k) ∧ w.cell? ⟨b, 1, none⟩ = some (.string t.s) ∧ w.cell? ⟨b, 2, none⟩ = some (.int .i64 t.p) ∧ w.cell? ⟨b, 3, none⟩ = some (.int .i64 t.l) ∧ w.cell? ⟨b, 4, none⟩ = some (.bool t.q)
theorem Box.below {w w' : World} {b B : Nat} {t : Tk} (h : Box w b t) (hb : Below B w w') (hB : b < B) : Box w' b t := by
  obtain ⟨h0, h1, h2, h3, h4⟩ := h
  exact ⟨by rw [hb.cell hB]; exact h0, by rw [hb.cell hB]; exact h1, by rw [hb.cell hB]; exact h2, by rw [hb.cell hB]; exact h3, by rw [hb.cell hB]; exact h4⟩
theorem box_alloc (w : World) (t : Tk) (fr : Nat × Nat) : Box (w.alloc (.cells #[.int .i64 t.k, .string t.s, .int .i64 t.p, .int .i64 t.l, .bool t.q] 32 fr)) w.heap.size t := by
  refine ⟨?_, ?_, ?_, ?_, ?_⟩ <;> rw [World.cell?_alloc_mark] <;> rfl
theorem Box.lt {w : World} {b : Nat} {t : Tk} (h : Box w b t) : b < w.heap.size := World.block_lt_of_cell? w ⟨b, 0, none⟩ h.1
/-- A token's block. -/
abbrev Tk.obj (t : Tk) (fr : Nat × Nat) : Obj := .cells #[.int .i64 t.k, .string t.s, .int .i64 t.p, .int .i64 t.l, .bool t.q] 32 fr
/-- Three tokens laid one behind the other, and what a call leaves of them. -/
theorem box3 (w : World) (p a b : Tk) (f1 f2 f3 : Nat × Nat) (W : World) (hw : Below (((w.alloc (p.obj f1)).alloc (a.obj f2)).alloc (b.obj f3)).heap.size (((w.alloc (p.obj f1)).alloc (a.obj f2)).alloc (b.obj f3)) W) :
    Box W (w.heap.size + 1) a ∧ Box W (w.heap.size + 1 + 1) b ∧ Below w.heap.size w W := by
  have h2 := box_alloc (w.alloc (p.obj f1)) a f2
  have h3 := box_alloc ((w.alloc (p.obj f1)).alloc (a.obj f2)) b f3
  have h2 := h2.below (below_alloc _ (b.obj f3)) h2.lt
  have h2 := h2.below hw h2.lt
  have h3 := h3.below hw h3.lt
  have e1 : (w.alloc (p.obj f1)).heap.size = w.heap.size + 1 := by simp
  have e2 : ((w.alloc (p.obj f1)).alloc (a.obj f2)).heap.size = w.heap.size + 1 + 1 := by simp
  rw [e1] at h2
  rw [e2] at h3
  exact ⟨h2, h3, below3 (below3 (below3 (below_alloc w _) (below_alloc _ _)) (below_alloc _ _)) hw⟩
end Go.Proofs.Ytakllllnpdnpdaa

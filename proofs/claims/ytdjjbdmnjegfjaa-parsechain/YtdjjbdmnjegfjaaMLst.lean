/-
  Slices of values of one cell each (texts, say): what they hold.
-/
import Derived.Test.YtdjjbdmnjegfjaaB01
namespace Go.Proofs.Ytdjjbdmnjegfjaa
open Go.RowKit
/-- The slice v holds the values vs in w. -/
def Lst (w : World) (v : Value) (vs : List Value) : Prop :=
  ∃ b off cap, v = .slice (some ⟨b, off, none⟩) vs.length cap ∧ vs.length ≤ cap ∧ cap ≤ 9223372036854775807 ∧ b < w.heap.size ∧ ∀ i, i < vs.length → w.cell? ⟨b, off + i, none⟩ = some (vs.getD i undef)
theorem Lst.below {w w' : World} {v : Value} {vs : List Value} (h : Lst w v vs) {B : Nat} (hb : Below B w w') (hB : w.heap.size ≤ B) : Lst w' v vs := by
  obtain ⟨b, off, cap, rfl, h1, h2, h3, h4⟩ := h
  exact ⟨b, off, cap, rfl, h1, h2, Nat.lt_of_lt_of_le h3 hb.size, fun i hi => by rw [hb.cell (by show b < B; omega)]; exact h4 i hi⟩
theorem lst_alloc (w : World) (vs : List Value) (t : Nat) (fr : Nat × Nat) (hl : vs.length ≤ 140737488355328) : Lst (w.alloc (.cells vs.toArray t fr)) (.slice (some ⟨w.heap.size, 0, none⟩) vs.length vs.length) vs :=
  ⟨w.heap.size, 0, vs.length, rfl, Nat.le_refl _, by omega, by simp, fun i hi => by
    rw [Nat.zero_add, World.cell?_alloc_mark]
    simp [List.getD, hi]⟩
end Go.Proofs.Ytdjjbdmnjegfjaa

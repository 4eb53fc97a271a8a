/-
  Three tokens made and laid in whatever order: what has come up, and what the world then holds. No program's text.
-/
import Derived.Test.YtmapohaobinjjaaTokBlk
import Derived.Test.YtmapohaobinjjaaOrdI
namespace Go.Proofs.Ytmapohaobinjjaa
open Go.RowKit
/-- The zero token. -/
def zeroT : Tk := ⟨0, ⟨#[]⟩, 0, 0, false⟩
def ptr (g : Nat) : Value := .pointer (some ⟨g, 0, none⟩)
/-- The six slots that are written. -/
def six (T : Array Value) (u11 u12 u13 u25 u33 u41 : Value) : Array Value := (((((T.setIfInBounds 11 u11).setIfInBounds 12 u12).setIfInBounds 13 u13).setIfInBounds 25 u25).setIfInBounds 33 u33).setIfInBounds 41 u41
structure Six (W : World) (A B C : Tk) (l : Array Bool) (w : World) (u11 u12 u13 u25 u33 u41 : Value) (g1 g2 g3 : Nat) : Prop where
  c1 : l.getD 7 false = true → u25 = A.val
  c2 : l.getD 15 false = true → u33 = B.val
  c3 : l.getD 23 false = true → u41 = C.val
  a1 : l.getD 24 false = true → u11 = ptr g1 ∧ W.heap.size ≤ g1 ∧ Blk w g1 (cond (l.getD 27 false) A zeroT)
  a2 : l.getD 25 false = true → u12 = ptr g2 ∧ W.heap.size ≤ g2 ∧ Blk w g2 (cond (l.getD 28 false) B zeroT)
  a3 : l.getD 26 false = true → u13 = ptr g3 ∧ W.heap.size ≤ g3 ∧ Blk w g3 (cond (l.getD 29 false) C zeroT)
  d12 : l.getD 24 false = true → l.getD 25 false = true → g1 ≠ g2
  d13 : l.getD 24 false = true → l.getD 26 false = true → g1 ≠ g3
  d23 : l.getD 25 false = true → l.getD 26 false = true → g2 ≠ g3
  below : Below W.heap.size W w
theorem Six.call7 {W : World} {A B C : Tk} {l : Array Bool} {w : World} {u11 u12 u13 u25 u33 u41 : Value} {g1 g2 g3 : Nat} (h : Six W A B C l w u11 u12 u13 u25 u33 u41 g1 g2 g3) {w' : World} (hb : Below w.heap.size w w') : Six W A B C (l.setIfInBounds 7 true) w' u11 u12 u13 A.val u33 u41 g1 g2 g3 where
  c1 := fun _ => rfl
  c2 := by simp only [getD_set_ne, ne_eq, Nat.reduceEqDiff, not_false_eq_true]; exact h.c2
  c3 := by simp only [getD_set_ne, ne_eq, Nat.reduceEqDiff, not_false_eq_true]; exact h.c3
  a1 := by simp only [getD_set_ne, ne_eq, Nat.reduceEqDiff, not_false_eq_true]; exact fun k => ⟨(h.a1 k).1, (h.a1 k).2.1, (h.a1 k).2.2.below hb (h.a1 k).2.2.lt⟩
  a2 := by simp only [getD_set_ne, ne_eq, Nat.reduceEqDiff, not_false_eq_true]; exact fun k => ⟨(h.a2 k).1, (h.a2 k).2.1, (h.a2 k).2.2.below hb (h.a2 k).2.2.lt⟩
  a3 := by simp only [getD_set_ne, ne_eq, Nat.reduceEqDiff, not_false_eq_true]; exact fun k => ⟨(h.a3 k).1, (h.a3 k).2.1, (h.a3 k).2.2.below hb (h.a3 k).2.2.lt⟩
  d12 := by simp only [getD_set_ne, ne_eq, Nat.reduceEqDiff, not_false_eq_true]; exact h.d12
  d13 := by simp only [getD_set_ne, ne_eq, Nat.reduceEqDiff, not_false_eq_true]; exact h.d13
  d23 := by simp only [getD_set_ne, ne_eq, Nat.reduceEqDiff, not_false_eq_true]; exact h.d23
  below := h.below.trans (hb.mono h.below.size)
theorem Six.call15 {W : World} {A B C : Tk} {l : Array Bool} {w : World} {u11 u12 u13 u25 u33 u41 : Value} {g1 g2 g3 : Nat} (h : Six W A B C l w u11 u12 u13 u25 u33 u41 g1 g2 g3) {w' : World} (hb : Below w.heap.size w w') : Six W A B C (l.setIfInBounds 15 true) w' u11 u12 u13 u25 B.val u41 g1 g2 g3 where
  c1 := by simp only [getD_set_ne, ne_eq, Nat.reduceEqDiff, not_false_eq_true]; exact h.c1
  c2 := fun _ => rfl
  c3 := by simp only [getD_set_ne, ne_eq, Nat.reduceEqDiff, not_false_eq_true]; exact h.c3
  a1 := by simp only [getD_set_ne, ne_eq, Nat.reduceEqDiff, not_false_eq_true]; exact fun k => ⟨(h.a1 k).1, (h.a1 k).2.1, (h.a1 k).2.2.below hb (h.a1 k).2.2.lt⟩
  a2 := by simp only [getD_set_ne, ne_eq, Nat.reduceEqDiff, not_false_eq_true]; exact fun k => ⟨(h.a2 k).1, (h.a2 k).2.1, (h.a2 k).2.2.below hb (h.a2 k).2.2.lt⟩
  a3 := by simp only [getD_set_ne, ne_eq, Nat.reduceEqDiff, not_false_eq_true]; exact fun k => ⟨(h.a3 k).1, (h.a3 k).2.1, (h.a3 k).2.2.below hb (h.a3 k).2.2.lt⟩
  d12 := by simp only [getD_set_ne, ne_eq, Nat.reduceEqDiff, not_false_eq_true]; exact h.d12
  d13 := by simp only [getD_set_ne, ne_eq, Nat.reduceEqDiff, not_false_eq_true]; exact h.d13
  d23 := by simp only [getD_set_ne, ne_eq, Nat.reduceEqDiff, not_false_eq_true]; exact h.d23
  below := h.below.trans (hb.mono h.below.size)
theorem Six.call23 {W : World} {A B C : Tk} {l : Array Bool} {w : World} {u11 u12 u13 u25 u33 u41 : Value} {g1 g2 g3 : Nat} (h : Six W A B C l w u11 u12 u13 u25 u33 u41 g1 g2 g3) {w' : World} (hb : Below w.heap.size w w') : Six W A B C (l.setIfInBounds 23 true) w' u11 u12 u13 u25 u33 C.val g1 g2 g3 where
  c1 := by simp only [getD_set_ne, ne_eq, Nat.reduceEqDiff, not_false_eq_true]; exact h.c1
  c2 := by simp only [getD_set_ne, ne_eq, Nat.reduceEqDiff, not_false_eq_true]; exact h.c2
  c3 := fun _ => rfl
  a1 := by simp only [getD_set_ne, ne_eq, Nat.reduceEqDiff, not_false_eq_true]; exact fun k => ⟨(h.a1 k).1, (h.a1 k).2.1, (h.a1 k).2.2.below hb (h.a1 k).2.2.lt⟩
  a2 := by simp only [getD_set_ne, ne_eq, Nat.reduceEqDiff, not_false_eq_true]; exact fun k => ⟨(h.a2 k).1, (h.a2 k).2.1, (h.a2 k).2.2.below hb (h.a2 k).2.2.lt⟩
  a3 := by simp only [getD_set_ne, ne_eq, Nat.reduceEqDiff, not_false_eq_true]; exact fun k => ⟨(h.a3 k).1, (h.a3 k).2.1, (h.a3 k).2.2.below hb (h.a3 k).2.2.lt⟩
  d12 := by simp only [getD_set_ne, ne_eq, Nat.reduceEqDiff, not_false_eq_true]; exact h.d12
  d13 := by simp only [getD_set_ne, ne_eq, Nat.reduceEqDiff, not_false_eq_true]; exact h.d13
  d23 := by simp only [getD_set_ne, ne_eq, Nat.reduceEqDiff, not_false_eq_true]; exact h.d23
  below := h.below.trans (hb.mono h.below.size)
theorem Six.alloc24 {W : World} {A B C : Tk} {l : Array Bool} {w : World} {u11 u12 u13 u25 u33 u41 : Value} {g1 g2 g3 : Nat} (h : Six W A B C l w u11 u12 u13 u25 u33 u41 g1 g2 g3) (hs : l.getD 27 false = false) : Six W A B C (l.setIfInBounds 24 true) (w.alloc (zeroT.obj (0, 0))) (ptr w.heap.size) u12 u13 u25 u33 u41 w.heap.size g2 g3 where
  c1 := by simp only [getD_set_ne, ne_eq, Nat.reduceEqDiff, not_false_eq_true]; exact h.c1
  c2 := by simp only [getD_set_ne, ne_eq, Nat.reduceEqDiff, not_false_eq_true]; exact h.c2
  c3 := by simp only [getD_set_ne, ne_eq, Nat.reduceEqDiff, not_false_eq_true]; exact h.c3
  a1 := fun _ => ⟨rfl, h.below.size, by rw [getD_set_ne false (by decide), hs]; exact Blk.alloc w zeroT⟩
  a2 := by simp only [getD_set_ne, ne_eq, Nat.reduceEqDiff, not_false_eq_true]; exact fun k => ⟨(h.a2 k).1, (h.a2 k).2.1, (h.a2 k).2.2.below (below_alloc _ _) (h.a2 k).2.2.lt⟩
  a3 := by simp only [getD_set_ne, ne_eq, Nat.reduceEqDiff, not_false_eq_true]; exact fun k => ⟨(h.a3 k).1, (h.a3 k).2.1, (h.a3 k).2.2.below (below_alloc _ _) (h.a3 k).2.2.lt⟩
  d12 := fun _ k e => by rw [getD_set_ne false (by decide)] at k; exact Nat.lt_irrefl _ (e ▸ (h.a2 k).2.2.lt)
  d13 := fun _ k e => by rw [getD_set_ne false (by decide)] at k; exact Nat.lt_irrefl _ (e ▸ (h.a3 k).2.2.lt)
  d23 := by simp only [getD_set_ne, ne_eq, Nat.reduceEqDiff, not_false_eq_true]; exact h.d23
  below := h.below.alloc h.below.size _
theorem Six.alloc25 {W : World} {A B C : Tk} {l : Array Bool} {w : World} {u11 u12 u13 u25 u33 u41 : Value} {g1 g2 g3 : Nat} (h : Six W A B C l w u11 u12 u13 u25 u33 u41 g1 g2 g3) (hs : l.getD 28 false = false) : Six W A B C (l.setIfInBounds 25 true) (w.alloc (zeroT.obj (0, 0))) u11 (ptr w.heap.size) u13 u25 u33 u41 g1 w.heap.size g3 where
  c1 := by simp only [getD_set_ne, ne_eq, Nat.reduceEqDiff, not_false_eq_true]; exact h.c1
  c2 := by simp only [getD_set_ne, ne_eq, Nat.reduceEqDiff, not_false_eq_true]; exact h.c2
  c3 := by simp only [getD_set_ne, ne_eq, Nat.reduceEqDiff, not_false_eq_true]; exact h.c3
  a1 := by simp only [getD_set_ne, ne_eq, Nat.reduceEqDiff, not_false_eq_true]; exact fun k => ⟨(h.a1 k).1, (h.a1 k).2.1, (h.a1 k).2.2.below (below_alloc _ _) (h.a1 k).2.2.lt⟩
  a2 := fun _ => ⟨rfl, h.below.size, by rw [getD_set_ne false (by decide), hs]; exact Blk.alloc w zeroT⟩
  a3 := by simp only [getD_set_ne, ne_eq, Nat.reduceEqDiff, not_false_eq_true]; exact fun k => ⟨(h.a3 k).1, (h.a3 k).2.1, (h.a3 k).2.2.below (below_alloc _ _) (h.a3 k).2.2.lt⟩
  d12 := fun k _ e => by rw [getD_set_ne false (by decide)] at k; exact Nat.lt_irrefl _ (e ▸ (h.a1 k).2.2.lt)
  d13 := by simp only [getD_set_ne, ne_eq, Nat.reduceEqDiff, not_false_eq_true]; exact h.d13
  d23 := fun _ k e => by rw [getD_set_ne false (by decide)] at k; exact Nat.lt_irrefl _ (e ▸ (h.a3 k).2.2.lt)
  below := h.below.alloc h.below.size _
theorem Six.alloc26 {W : World} {A B C : Tk} {l : Array Bool} {w : World} {u11 u12 u13 u25 u33 u41 : Value} {g1 g2 g3 : Nat} (h : Six W A B C l w u11 u12 u13 u25 u33 u41 g1 g2 g3) (hs : l.getD 29 false = false) : Six W A B C (l.setIfInBounds 26 true) (w.alloc (zeroT.obj (0, 0))) u11 u12 (ptr w.heap.size) u25 u33 u41 g1 g2 w.heap.size where
  c1 := by simp only [getD_set_ne, ne_eq, Nat.reduceEqDiff, not_false_eq_true]; exact h.c1
  c2 := by simp only [getD_set_ne, ne_eq, Nat.reduceEqDiff, not_false_eq_true]; exact h.c2
  c3 := by simp only [getD_set_ne, ne_eq, Nat.reduceEqDiff, not_false_eq_true]; exact h.c3
  a1 := by simp only [getD_set_ne, ne_eq, Nat.reduceEqDiff, not_false_eq_true]; exact fun k => ⟨(h.a1 k).1, (h.a1 k).2.1, (h.a1 k).2.2.below (below_alloc _ _) (h.a1 k).2.2.lt⟩
  a2 := by simp only [getD_set_ne, ne_eq, Nat.reduceEqDiff, not_false_eq_true]; exact fun k => ⟨(h.a2 k).1, (h.a2 k).2.1, (h.a2 k).2.2.below (below_alloc _ _) (h.a2 k).2.2.lt⟩
  a3 := fun _ => ⟨rfl, h.below.size, by rw [getD_set_ne false (by decide), hs]; exact Blk.alloc w zeroT⟩
  d12 := by simp only [getD_set_ne, ne_eq, Nat.reduceEqDiff, not_false_eq_true]; exact h.d12
  d13 := fun k _ e => by rw [getD_set_ne false (by decide)] at k; exact Nat.lt_irrefl _ (e ▸ (h.a1 k).2.2.lt)
  d23 := fun k _ e => by rw [getD_set_ne false (by decide)] at k; exact Nat.lt_irrefl _ (e ▸ (h.a2 k).2.2.lt)
  below := h.below.alloc h.below.size _
theorem Six.store27 {W : World} {A B C : Tk} {l : Array Bool} {w : World} {u11 u12 u13 u25 u33 u41 : Value} {g1 g2 g3 : Nat} (h : Six W A B C l w u11 u12 u13 u25 u33 u41 g1 g2 g3) (hn : 27 < l.size) (k1 : l.getD 24 false = true) (k2 : l.getD 25 false = true) (k3 : l.getD 26 false = true) : Six W A B C (l.setIfInBounds 27 true) (setTk w g1 A) u11 u12 u13 u25 u33 u41 g1 g2 g3 where
  c1 := by simp only [getD_set_ne, ne_eq, Nat.reduceEqDiff, not_false_eq_true]; exact h.c1
  c2 := by simp only [getD_set_ne, ne_eq, Nat.reduceEqDiff, not_false_eq_true]; exact h.c2
  c3 := by simp only [getD_set_ne, ne_eq, Nat.reduceEqDiff, not_false_eq_true]; exact h.c3
  a1 := fun _ => ⟨(h.a1 k1).1, (h.a1 k1).2.1, by rw [show (l.setIfInBounds 27 true).getD 27 false = true by simp [hn]]; exact (h.a1 k1).2.2.set _⟩
  a2 := by simp only [getD_set_ne, ne_eq, Nat.reduceEqDiff, not_false_eq_true]; exact fun k => ⟨(h.a2 k).1, (h.a2 k).2.1, (h.a2 k).2.2.set_other _ (h.d12 k1 k2).symm⟩
  a3 := by simp only [getD_set_ne, ne_eq, Nat.reduceEqDiff, not_false_eq_true]; exact fun k => ⟨(h.a3 k).1, (h.a3 k).2.1, (h.a3 k).2.2.set_other _ (h.d13 k1 k3).symm⟩
  d12 := by simp only [getD_set_ne, ne_eq, Nat.reduceEqDiff, not_false_eq_true]; exact h.d12
  d13 := by simp only [getD_set_ne, ne_eq, Nat.reduceEqDiff, not_false_eq_true]; exact h.d13
  d23 := by simp only [getD_set_ne, ne_eq, Nat.reduceEqDiff, not_false_eq_true]; exact h.d23
  below := setTk_below h.below (h.a1 k1).2.1 _
theorem Six.store28 {W : World} {A B C : Tk} {l : Array Bool} {w : World} {u11 u12 u13 u25 u33 u41 : Value} {g1 g2 g3 : Nat} (h : Six W A B C l w u11 u12 u13 u25 u33 u41 g1 g2 g3) (hn : 28 < l.size) (k1 : l.getD 24 false = true) (k2 : l.getD 25 false = true) (k3 : l.getD 26 false = true) : Six W A B C (l.setIfInBounds 28 true) (setTk w g2 B) u11 u12 u13 u25 u33 u41 g1 g2 g3 where
  c1 := by simp only [getD_set_ne, ne_eq, Nat.reduceEqDiff, not_false_eq_true]; exact h.c1
  c2 := by simp only [getD_set_ne, ne_eq, Nat.reduceEqDiff, not_false_eq_true]; exact h.c2
  c3 := by simp only [getD_set_ne, ne_eq, Nat.reduceEqDiff, not_false_eq_true]; exact h.c3
  a1 := by simp only [getD_set_ne, ne_eq, Nat.reduceEqDiff, not_false_eq_true]; exact fun k => ⟨(h.a1 k).1, (h.a1 k).2.1, (h.a1 k).2.2.set_other _ (h.d12 k1 k2)⟩
  a2 := fun _ => ⟨(h.a2 k2).1, (h.a2 k2).2.1, by rw [show (l.setIfInBounds 28 true).getD 28 false = true by simp [hn]]; exact (h.a2 k2).2.2.set _⟩
  a3 := by simp only [getD_set_ne, ne_eq, Nat.reduceEqDiff, not_false_eq_true]; exact fun k => ⟨(h.a3 k).1, (h.a3 k).2.1, (h.a3 k).2.2.set_other _ (h.d23 k2 k3).symm⟩
  d12 := by simp only [getD_set_ne, ne_eq, Nat.reduceEqDiff, not_false_eq_true]; exact h.d12
  d13 := by simp only [getD_set_ne, ne_eq, Nat.reduceEqDiff, not_false_eq_true]; exact h.d13
  d23 := by simp only [getD_set_ne, ne_eq, Nat.reduceEqDiff, not_false_eq_true]; exact h.d23
  below := setTk_below h.below (h.a2 k2).2.1 _
theorem Six.store29 {W : World} {A B C : Tk} {l : Array Bool} {w : World} {u11 u12 u13 u25 u33 u41 : Value} {g1 g2 g3 : Nat} (h : Six W A B C l w u11 u12 u13 u25 u33 u41 g1 g2 g3) (hn : 29 < l.size) (k1 : l.getD 24 false = true) (k2 : l.getD 25 false = true) (k3 : l.getD 26 false = true) : Six W A B C (l.setIfInBounds 29 true) (setTk w g3 C) u11 u12 u13 u25 u33 u41 g1 g2 g3 where
  c1 := by simp only [getD_set_ne, ne_eq, Nat.reduceEqDiff, not_false_eq_true]; exact h.c1
  c2 := by simp only [getD_set_ne, ne_eq, Nat.reduceEqDiff, not_false_eq_true]; exact h.c2
  c3 := by simp only [getD_set_ne, ne_eq, Nat.reduceEqDiff, not_false_eq_true]; exact h.c3
  a1 := by simp only [getD_set_ne, ne_eq, Nat.reduceEqDiff, not_false_eq_true]; exact fun k => ⟨(h.a1 k).1, (h.a1 k).2.1, (h.a1 k).2.2.set_other _ (h.d13 k1 k3)⟩
  a2 := by simp only [getD_set_ne, ne_eq, Nat.reduceEqDiff, not_false_eq_true]; exact fun k => ⟨(h.a2 k).1, (h.a2 k).2.1, (h.a2 k).2.2.set_other _ (h.d23 k2 k3)⟩
  a3 := fun _ => ⟨(h.a3 k3).1, (h.a3 k3).2.1, by rw [show (l.setIfInBounds 29 true).getD 29 false = true by simp [hn]]; exact (h.a3 k3).2.2.set _⟩
  d12 := by simp only [getD_set_ne, ne_eq, Nat.reduceEqDiff, not_false_eq_true]; exact h.d12
  d13 := by simp only [getD_set_ne, ne_eq, Nat.reduceEqDiff, not_false_eq_true]; exact h.d13
  d23 := by simp only [getD_set_ne, ne_eq, Nat.reduceEqDiff, not_false_eq_true]; exact h.d23
  below := setTk_below h.below (h.a3 k3).2.1 _
end Go.Proofs.Ytmapohaobinjjaa

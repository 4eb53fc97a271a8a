/-
  A node in a box of its own, written over by one that is beneath it.
-/
import Derived.Test.YtdjjbdmnjegfjaaB23
namespace Go.Proofs.Ytdjjbdmnjegfjaa
open Go.RowKit Go.Lib Go.Sort
set_option linter.unusedSimpArgs false
set_option linter.unusedVariables false
/-- A node in its box, with all that is beneath it in blocks ahead of the box. -/
def BoxX (w0 w : World) (b : Nat) (k t : Int) (a : Option Addr) (m c : Nat) (f : F) : Prop := NBlk w b k t a m c ∧ SlQ (fun y => y < b) w a m c f ∧ Below w0.heap.size w0 w ∧ w0.heap.size ≤ b
theorem BoxX.set {w0 w : World} {b : Nat} {k t : Int} {a : Option Addr} {m c : Nat} {f : F} (h : BoxX w0 w b k t a m c f) {k' t' : Int} {a' : Option Addr} {m' c' : Nat} {f' : F} (hs : SlQ (fun y => y < b) w a' m' c' f') :
    BoxX w0 (((w.setCell ⟨b, 0, none⟩ (.int .i64 k')).setCell ⟨b, 1, none⟩ (.int .i64 t')).setCell ⟨b, 2, none⟩ (.slice a' m' c')) b k' t' a' m' c' f' :=
  ⟨h.1.set3, hs.keep (fun y hy => box_heap w b k' t' a' m' c' y (by have := hy.1; omega)), ((h.2.2.1.setCell (p := ⟨b, 0, none⟩) h.2.2.2 _).setCell (p := ⟨b, 1, none⟩) h.2.2.2 _).setCell (p := ⟨b, 2, none⟩) h.2.2.2 _, h.2.2.2⟩
theorem boxX_new {w0 W : World} {k t : Int} {a : Option Addr} {m c : Nat} {f : F} {P : Nat → Prop} (hs : SlQ P W a m c f) (hb : Below w0.heap.size w0 W) : BoxX w0 (W.alloc (.cells #[.int .i64 k, .int .i64 t, .slice a m c] 26 (0, 0))) W.heap.size k t a m c f :=
  ⟨nblk_new W k t a m c, (hs.mono (P' := fun y => y < W.heap.size) (fun y hy => hy.lt)).below (below_alloc _ _), hb.trans ((below_alloc W _).mono hb.size), hb.size⟩
end Go.Proofs.Ytdjjbdmnjegfjaa

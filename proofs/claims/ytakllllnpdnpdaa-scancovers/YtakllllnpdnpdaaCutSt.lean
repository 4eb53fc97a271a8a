/-
  The program's cutter behind its pointer: as the reference's scanner.
-/
import Derived.Test.YtakllllnpdnpdaaScMath
import Derived.Test.YtakllllnpdnpdaaOrdI
import Derived.Test.YtakllllnpdnpdaaWrap
import Derived.Deep.DeepCutAuto
import Derived.Deep.RegionHeld
import Derived.Deep.LoopGhost
import Derived.LoopTactic
namespace Go.Proofs.Ytakllllnpdnpdaa
open Go.RowKit
/-- The scanner's block. -/
def cuObj (s : ByteArray) (p line : Nat) (vl vc : Value) : Obj := .cells #[.string s, .int .i64 p, .int .i64 line, vl, vc] 36 (0, 0)
def CuSt (w : World) (base g : Nat) (s : ByteArray) (x : Sc) : Prop :=
  ∃ vl vc, w.heap[g]? = some (cuObj s x.p x.line vl vc) ∧ OwnT w base vl x.l ∧ OwnC w base vc x.c ∧ base ≤ g
theorem CuSt.lt {w : World} {base g : Nat} {s : ByteArray} {x : Sc} (h : CuSt w base g s x) : g < w.heap.size := by
  obtain ⟨_, _, h, _⟩ := h
  exact (Array.getElem?_eq_some_iff.1 h).1
/-- A call that makes blocks alone. -/
theorem CuSt.below {w w' : World} {base g : Nat} {s : ByteArray} {x : Sc} (h : CuSt w base g s x) (hb : Below w.heap.size w w') : CuSt w' base g s x := by
  obtain ⟨vl, vc, h1, h2, h3, h4⟩ := h
  have hk : ∀ k o, w.heap[k]? = some o → w'.heap[k]? = w.heap[k]? := fun k o hk => hb.block k (Array.getElem?_eq_some_iff.1 hk).1
  exact ⟨vl, vc, (hk _ _ h1).trans h1, own_other h2 (fun k cur hc => hk k _ hc), own_other h3 (fun k cur hc => hk k _ hc), h4⟩
theorem cuCells {w : World} {g : Nat} {s : ByteArray} {p line : Nat} {vl vc : Value} (h : w.heap[g]? = some (cuObj s p line vl vc)) : w.cell? ⟨g, 0, none⟩ = some (.string s) ∧ w.cell? ⟨g, 1, none⟩ = some (.int .i64 p) ∧ w.cell? ⟨g, 2, none⟩ = some (.int .i64 line) ∧ w.cell? ⟨g, 3, none⟩ = some vl ∧ w.cell? ⟨g, 4, none⟩ = some vc :=
  ⟨Joins.cell_of_block h 0, Joins.cell_of_block h 1, Joins.cell_of_block h 2, Joins.cell_of_block h 3, Joins.cell_of_block h 4⟩
theorem cuFrozen {w : World} {g : Nat} {s : ByteArray} {p line : Nat} {vl vc : Value} (h : w.heap[g]? = some (cuObj s p line vl vc)) (i : Nat) : w.frozen? ⟨g, i, none⟩ = false := Joins.unfrozen_of_block h i
/-- A scanner whose tokens were appended to, and stored. -/
theorem cu_stored {w w' : World} {base g : Nat} {s : ByteArray} {p line : Nat} {vl vc v' : Value} {l l' : List Tk} {c : List Cm} (h0 : w.heap[g]? = some (cuObj s p line vl vc)) (h1 : OwnT w base vl l) (h2 : OwnC w base vc c) (h3 : base ≤ g)
    (hown : OwnT w' base v' l') (hg : w.grownBy w' vl.ownBlock) : CuSt (w'.setCell ⟨g, 3, none⟩ v') base g s ⟨p, line, l', c⟩ ∧ w'.heap[g]? = some (cuObj s p line vl vc) := by
  have hb : w'.heap[g]? = some (cuObj s p line vl vc) := (hg.block g (Array.getElem?_eq_some_iff.1 h0).1 (fun e => own_apart h1 (show 32 ≠ 36 by decide) g e.symm _ h0)).trans h0
  have hc : OwnC w' base vc c := own_grown h2 hg (own_apart h1 (show 32 ≠ 30 by decide))
  have hn : ∀ (e : Nat), e ≠ 36 → ∀ cur, w'.heap[(⟨g, 3, none⟩ : Addr).block]? ≠ some (Obj.cells cur e (0, 0)) := fun e he cur hk => by
    rw [show w'.heap[(⟨g, 3, none⟩ : Addr).block]? = some (cuObj s p line vl vc) from hb] at hk
    simp only [cuObj, Option.some.injEq, Obj.cells.injEq] at hk
    exact he hk.2.1.symm
  exact ⟨⟨v', vc, Joins.block_setCell (i := 3) hb v', own_set hown _ _ (hn _ (by decide)), own_set hc _ _ (hn _ (by decide)), h3⟩, hb⟩
theorem cu_stored_com {w w' : World} {base g : Nat} {s : ByteArray} {p line : Nat} {vl vc v' : Value} {l : List Tk} {c c' : List Cm} (h0 : w.heap[g]? = some (cuObj s p line vl vc)) (h1 : OwnT w base vl l) (h2 : OwnC w base vc c) (h3 : base ≤ g)
    (hown : OwnC w' base v' c') (hg : w.grownBy w' vc.ownBlock) : CuSt (w'.setCell ⟨g, 4, none⟩ v') base g s ⟨p, line, l, c'⟩ ∧ w'.heap[g]? = some (cuObj s p line vl vc) := by
  have hb : w'.heap[g]? = some (cuObj s p line vl vc) := (hg.block g (Array.getElem?_eq_some_iff.1 h0).1 (fun e => own_apart h2 (show 30 ≠ 36 by decide) g e.symm _ h0)).trans h0
  have hc : OwnT w' base vl l := own_grown h1 hg (own_apart h2 (show 30 ≠ 32 by decide))
  have hn : ∀ (e : Nat), e ≠ 36 → ∀ cur, w'.heap[(⟨g, 4, none⟩ : Addr).block]? ≠ some (Obj.cells cur e (0, 0)) := fun e he cur hk => by
    rw [show w'.heap[(⟨g, 4, none⟩ : Addr).block]? = some (cuObj s p line vl vc) from hb] at hk
    simp only [cuObj, Option.some.injEq, Obj.cells.injEq] at hk
    exact he hk.2.1.symm
  exact ⟨⟨vl, v', Joins.block_setCell (i := 4) hb v', own_set hc _ _ (hn _ (by decide)), own_set hown _ _ (hn _ (by decide)), h3⟩, hb⟩
/-- A scanner's place, or its line, stored. -/
theorem cu_moved {w : World} {base g : Nat} {s : ByteArray} {x : Sc} (h : CuSt w base g s x) (q : Nat) : CuSt (w.setCell ⟨g, 1, none⟩ (.int .i64 q)) base g s ⟨q, x.line, x.l, x.c⟩ ∧ CuSt (w.setCell ⟨g, 2, none⟩ (.int .i64 q)) base g s ⟨x.p, q, x.l, x.c⟩ := by
  obtain ⟨vl, vc, h0, h1, h2, h3⟩ := h
  have hn : ∀ (i e : Nat), e ≠ 36 → ∀ cur, w.heap[(⟨g, i, none⟩ : Addr).block]? ≠ some (Obj.cells cur e (0, 0)) := fun i e he cur hk => by
    rw [show w.heap[(⟨g, i, none⟩ : Addr).block]? = some (cuObj s x.p x.line vl vc) from h0] at hk
    simp only [cuObj, Option.some.injEq, Obj.cells.injEq] at hk
    exact he hk.2.1.symm
  exact ⟨⟨vl, vc, Joins.block_setCell (i := 1) h0 _, own_set h1 _ _ (hn _ _ (by decide)), own_set h2 _ _ (hn _ _ (by decide)), h3⟩, ⟨vl, vc, Joins.block_setCell (i := 2) h0 _, own_set h1 _ _ (hn _ _ (by decide)), own_set h2 _ _ (hn _ _ (by decide)), h3⟩⟩
theorem cu0_st (w : World) (s : ByteArray) : CuSt (w.alloc (.cells #[.string s, .int .i64 0, .int .i64 1, .slice none 0 0, .slice none 0 0] 36)) w.heap.size w.heap.size s sc0 :=
  ⟨.slice none 0 0, .slice none 0 0, by show (w.heap.push _)[w.heap.size]? = _; simp [cuObj, sc0], own_none _ _ _ _, own_none _ _ _ _, Nat.le_refl _⟩
end Go.Proofs.Ytakllllnpdnpdaa

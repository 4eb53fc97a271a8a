/-
  A scanner behind its pointer: its text, where it stands, its tokens and comments so far. What each store and append leaves.
-/
import Derived.Test.YtmhkmmcicfpakaaCutS
import Derived.Test.YtmhkmmcicfpakaaTokMath
import Derived.Deep.DeepAppendWide
import Derived.Lib.SmallJoins
namespace Go.Proofs.Ytmhkmmcicfpakaa
open Go.RowKit
/-- A comment. -/
structure Cm where
  s : ByteArray
  p : Int
  l : Int
  n : Int
def Cm.cells (c : Cm) : List Value := [.string c.s, .int .i64 c.p, .int .i64 c.l, .int .i64 c.n]
def Tk.cells (t : Tk) : List Value := [.int .i64 t.k, .string t.s, .int .i64 t.p, .int .i64 t.l, .bool t.q]
def toksC (l : List Tk) : List Value := l.flatMap Tk.cells
def comsC (l : List Cm) : List Value := l.flatMap Cm.cells
theorem toksC_snoc (l : List Tk) (t : Tk) : toksC (l ++ [t]) = toksC l ++ t.cells := by simp [toksC]
theorem comsC_snoc (l : List Cm) (t : Cm) : comsC (l ++ [t]) = comsC l ++ t.cells := by simp [comsC]
/-- Tokens that the call's own slice holds. -/
def OwnT (w : World) (base : Nat) (v : Value) (l : List Tk) : Prop := w.ownsRow base 36 5 v l.length (toksC l)
def OwnC (w : World) (base : Nat) (v : Value) (l : List Cm) : Prop := w.ownsRow base 34 4 v l.length (comsC l)
/-- The scanner's block. -/
def scObj (s : ByteArray) (p line : Nat) (vl vc : Value) : Obj := .cells #[.string s, .int .i64 p, .int .i64 line, vl, vc] 50 (0, 0)
theorem own_other {w w' : World} {base e size n : Nat} {v : Value} {xs : List Value} (h : w.ownsRow base e size v n xs) (hb : ∀ (k : Nat) (cur : Array Value), w.heap[k]? = some (Obj.cells cur e (0, 0)) → w'.heap[k]? = w.heap[k]?) : w'.ownsRow base e size v n xs := by
  refine ⟨h.1, ?_⟩
  rcases h.2 with h | ⟨g, cap, cur, h1, h2, h3, h4⟩
  · exact .inl h
  · exact .inr ⟨g, cap, cur, h1, h2, (hb g cur h3).trans h3, h4⟩
/-- What other kinds of blocks do turns no row. -/
theorem own_grown {w w' : World} {base e size n : Nat} {v u : Value} {xs : List Value} (h : w.ownsRow base e size v n xs) (hg : w.grownBy w' u.ownBlock) (hu : ∀ (k : Nat), u.ownBlock = some k → ∀ cur, w.heap[k]? ≠ some (Obj.cells cur e (0, 0))) : w'.ownsRow base e size v n xs :=
  own_other h fun k cur hk => hg.block k (Array.getElem?_eq_some_iff.1 hk).1 (fun e => hu k e.symm cur hk)
theorem own_alloc {w : World} {base e size n : Nat} {v : Value} {xs : List Value} (h : w.ownsRow base e size v n xs) (o : Obj) : (w.alloc o).ownsRow base e size v n xs :=
  own_other h fun _ _ hk => Below.heap_alloc _ _ _ (Array.getElem?_eq_some_iff.1 hk).1
theorem own_set {w : World} {base e size n : Nat} {v : Value} {xs : List Value} (h : w.ownsRow base e size v n xs) (a : Addr) (x : Value) (ha : ∀ cur, w.heap[a.block]? ≠ some (Obj.cells cur e (0, 0))) : (w.setCell a x).ownsRow base e size v n xs :=
  own_other h fun _ cur hk => Below.heap_setCell _ _ _ _ (fun e => ha cur (e ▸ hk))
/-- The kind of the block that an own row lies in. -/
theorem own_kind {w : World} {base e size n : Nat} {v : Value} {xs : List Value} (h : w.ownsRow base e size v n xs) {k : Nat} (hk : v.ownBlock = some k) : ∃ cur, w.heap[k]? = some (Obj.cells cur e (0, 0)) := by
  rcases h.2 with ⟨rfl, _⟩ | ⟨g, cap, cur, rfl, h2, h3, h4⟩
  · cases hk
  · obtain rfl : g = k := by simpa [Value.ownBlock] using hk
    exact ⟨cur, h3⟩
theorem own_apart {w : World} {base e e' size n : Nat} {v : Value} {xs : List Value} (h : w.ownsRow base e size v n xs) (hne : e ≠ e') : ∀ k, v.ownBlock = some k → ∀ cur, w.heap[k]? ≠ some (Obj.cells cur e' (0, 0)) := fun k hk cur hc => by
  obtain ⟨cur', h'⟩ := own_kind h hk
  rw [h'] at hc
  simp only [Option.some.injEq, Obj.cells.injEq] at hc
  exact hne hc.2.1
theorem own_shape {w : World} {base e size n : Nat} {v : Value} {xs : List Value} (h : w.ownsRow base e size v n xs) : ∃ a c, v = .slice a n c ∧ n ≤ c ∧ c ≤ maxLen := by
  rcases h.2 with ⟨rfl, rfl⟩ | ⟨g, cap, cur, rfl, _, _, h4, h5, _⟩
  · exact ⟨_, _, rfl, Nat.le_refl _, Nat.zero_le _⟩
  · exact ⟨_, _, rfl, h4, h5⟩
/-- A scanner: where it stands, its line, its tokens, its comments. -/
structure Sc where
  p : Nat
  line : Nat
  l : List Tk
  c : List Cm
def ScSt (w : World) (base g : Nat) (s : ByteArray) (x : Sc) : Prop :=
  ∃ vl vc, w.heap[g]? = some (scObj s x.p x.line vl vc) ∧ OwnT w base vl x.l ∧ OwnC w base vc x.c ∧ base ≤ g
theorem ScSt.lt {w : World} {base g : Nat} {s : ByteArray} {x : Sc} (h : ScSt w base g s x) : g < w.heap.size := by
  obtain ⟨_, _, h, _⟩ := h
  exact (Array.getElem?_eq_some_iff.1 h).1
/-- A call that makes blocks alone. -/
theorem ScSt.below {w w' : World} {base g : Nat} {s : ByteArray} {x : Sc} (h : ScSt w base g s x) (hb : Below w.heap.size w w') : ScSt w' base g s x := by
  obtain ⟨vl, vc, h1, h2, h3, h4⟩ := h
  have hk : ∀ k o, w.heap[k]? = some o → w'.heap[k]? = w.heap[k]? := fun k o hk => hb.block k (Array.getElem?_eq_some_iff.1 hk).1
  exact ⟨vl, vc, (hk _ _ h1).trans h1, own_other h2 (fun k cur hc => hk k _ hc), own_other h3 (fun k cur hc => hk k _ hc), h4⟩
theorem scCells {w : World} {g : Nat} {s : ByteArray} {p line : Nat} {vl vc : Value} (h : w.heap[g]? = some (scObj s p line vl vc)) : w.cell? ⟨g, 0, none⟩ = some (.string s) ∧ w.cell? ⟨g, 1, none⟩ = some (.int .i64 p) ∧ w.cell? ⟨g, 2, none⟩ = some (.int .i64 line) ∧ w.cell? ⟨g, 3, none⟩ = some vl ∧ w.cell? ⟨g, 4, none⟩ = some vc :=
  ⟨Joins.cell_of_block h 0, Joins.cell_of_block h 1, Joins.cell_of_block h 2, Joins.cell_of_block h 3, Joins.cell_of_block h 4⟩
theorem scFrozen {w : World} {g : Nat} {s : ByteArray} {p line : Nat} {vl vc : Value} (h : w.heap[g]? = some (scObj s p line vl vc)) (i : Nat) : w.frozen? ⟨g, i, none⟩ = false := Joins.unfrozen_of_block h i
end Go.Proofs.Ytmhkmmcicfpakaa

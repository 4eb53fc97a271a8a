/-
  A pile of lists of nodes; what a function that is handed over does to the world.
-/
import Derived.Test.YthnapcdanccohaaDoorNdRef
import Derived.Deep.AppendLies
import Derived.Laws.OwnMore
namespace Go.Proofs.YthnapcdanccohaaDoor
open Go.RowKit Go.Lib Go.Sort
set_option linter.unusedSimpArgs false
set_option linter.unusedVariables false
theorem Tryd.info24 : (Tryd.prog.info? 24).map (fun i => (i.zero, i.size, i.bytes)) = some (some (.slice none 0 0), 1, 24) := by kernel_rfl
/-- Block g is a row of slices of nodes that begins with these; it has room for cap. -/
def RowP (w : World) (g cap : Nat) (us : List Value) : Prop :=
  ∃ cur : Array Value, w.heap[g]? = some (.cells cur 24 (0, 0)) ∧ cur.size = cap ∧ us.length ≤ cap ∧ cap ≤ maxLen ∧ cur.toList.take us.length = us
theorem RowP.lt {w : World} {g cap : Nat} {us : List Value} (h : RowP w g cap us) : g < w.heap.size := by
  obtain ⟨cur, hg, _⟩ := h
  exact (Array.getElem?_eq_some_iff.1 hg).1
theorem RowP.room {w : World} {g cap : Nat} {us : List Value} (h : RowP w g cap us) : us.length ≤ cap ∧ cap ≤ maxLen := by
  obtain ⟨cur, hg, h1, h2, h3, _⟩ := h
  exact ⟨h2, h3⟩
theorem RowP.own {w : World} {g cap base : Nat} {us : List Value} (h : RowP w g cap us) (hb : base ≤ g) : w.ownsRow base 24 1 (.slice (some ⟨g, 0, none⟩) us.length cap) us.length us := by
  obtain ⟨cur, hg, h1, h2, h3, h4⟩ := h
  exact ⟨by simp, .inr ⟨g, cap, cur, rfl, hb, hg, h2, h3, by omega, by rw [Nat.mul_one]; exact h4⟩⟩
theorem RowP.of {w : World} {g cap base n : Nat} {us : List Value} (h : w.ownsRow base 24 1 (.slice (some ⟨g, 0, none⟩) n cap) n us) : RowP w g cap us ∧ us.length = n := by
  have hl : us.length = n := by have := h.1; omega
  rcases h.2 with ⟨h0, _⟩ | ⟨g', cap', cur, h0, hb, hg, hnc, hcm, hcs, ht⟩
  · injection h0 with h0; cases h0
  · injection h0 with h0 h1 h2
    injection h0 with h0
    injection h0 with h0
    subst h0 h2
    exact ⟨⟨cur, hg, by omega, by omega, hcm, by rw [hl]; rw [Nat.mul_one] at ht; exact ht⟩, hl⟩
theorem RowP.cell {w : World} {g cap : Nat} {us : List Value} (h : RowP w g cap us) (j : Nat) (hj : j < us.length) : w.cell? ⟨g, j, none⟩ = some (us.getD j undef) := by
  rw [World.ownsRow.cellAt (h.own (Nat.zero_le g)) j (by omega)]
  simp [List.getD, hj]
theorem RowP.frozen {w : World} {g cap : Nat} {us : List Value} (h : RowP w g cap us) (j : Nat) : w.frozen? ⟨g, j, none⟩ = false := World.ownsRow.frozenAt (h.own (Nat.zero_le g)) j
theorem RowP.take {w : World} {g cap : Nat} {us : List Value} (h : RowP w g cap us) (k : Nat) : RowP w g cap (us.take k) := by
  obtain ⟨cur, hg, h1, h2, h3, h4⟩ := h
  refine ⟨cur, hg, h1, by simp; omega, h3, ?_⟩
  conv => rhs; rw [← h4]
  rw [List.take_take]
  congr 1
  simp
theorem RowP.same {w w' : World} {g cap : Nat} {us : List Value} (h : RowP w g cap us) (hb : w'.heap[g]? = w.heap[g]?) : RowP w' g cap us := by
  obtain ⟨cur, hg, h1⟩ := h
  exact ⟨cur, by rw [hb]; exact hg, h1⟩
theorem RowP.set {w : World} {g cap : Nat} {us : List Value} (h : RowP w g cap us) (i : Nat) (v : Value) : RowP (w.setCell ⟨g, i, none⟩ v) g cap (us.set i v) := by
  obtain ⟨cur, hg, h1, h2, h3, h4⟩ := h
  refine ⟨cur.setIfInBounds i v, Joins.block_setCell hg v, by simp [h1], by simpa using h2, h3, ?_⟩
  rw [List.length_set, Array.toList_setIfInBounds, List.take_set, h4]
theorem RowP.noTag {w : World} {g cap : Nat} {us : List Value} (h : RowP w g cap us) : ¬ Tag w g := by
  rintro ⟨_, cur, hh⟩
  obtain ⟨cur', hg, _⟩ := h
  rw [hh] at hg
  simp only [Option.some.injEq, Obj.cells.injEq] at hg
  exact absurd hg.2.1 (by decide)
theorem rowP_new (w : World) (v : Value) : RowP (w.alloc (.cells #[v] 24 (0, 0))) w.heap.size 1 [v] := ⟨#[v], heap_alloc_new w _, rfl, Nat.le_refl _, by unfold maxLen; simp, rfl⟩
/-- The slices of a pile, the topmost first, hold these forests. -/
def Stk (w : World) : List Value → List F → Prop
  | [], [] => True
  | v :: vs, f :: fs => (∃ a n cap, v = .slice a n cap ∧ Sl w a n cap f) ∧ Stk w vs fs
  | _, _ => False
theorem Stk.len {w : World} : ∀ {vs : List Value} {fs : List F}, Stk w vs fs → vs.length = fs.length
  | [], [], _ => rfl
  | v :: vs, f :: fs, h => by simp only [List.length_cons]; rw [Stk.len h.2]
  | [], _ :: _, h => h.elim
  | _ :: _, [], h => h.elim
theorem rev_last (v : Value) (vs : List Value) : (v :: vs).reverse.getD vs.length undef = v := by simp [List.getD]
theorem rev_take (v : Value) (vs : List Value) : (v :: vs).reverse.take vs.length = vs.reverse := by
  rw [List.reverse_cons]
  exact List.take_left' (by simp)
theorem rev_set (v u : Value) (vs : List Value) : (v :: vs).reverse.set vs.length u = (u :: vs).reverse := by
  rw [List.reverse_cons, List.reverse_cons, List.set_append_right _ _ (by simp)]
  simp
/-- All but the blocks of C is as it was; C' has new ones besides, at most. -/
structure Moves (C C' : Nat → Prop) (w w' : World) : Prop where
  os : w'.os = w.os
  tape : w'.tape = w.tape
  output : w'.output = w.output
  size : w.heap.size ≤ w'.heap.size
  block : ∀ g, g < w.heap.size → ¬ C g → w'.heap[g]? = w.heap[g]?
  grows : ∀ g, C' g → C g ∨ w.heap.size ≤ g
theorem Moves.refl (C : Nat → Prop) (w : World) : Moves C C w w := ⟨rfl, rfl, rfl, Nat.le_refl _, fun _ _ _ => rfl, fun _ h => .inl h⟩
theorem Moves.trans {C C' C'' : Nat → Prop} {w w' w'' : World} (h : Moves C C' w w') (k : Moves C' C'' w' w'') : Moves C C'' w w'' :=
  ⟨k.os.trans h.os, k.tape.trans h.tape, k.output.trans h.output, Nat.le_trans h.size k.size, fun g hg hc => (k.block g (Nat.lt_of_lt_of_le hg h.size) (fun hc' => by
    rcases h.grows g hc' with h1 | h1
    · exact hc h1
    · omega)).trans (h.block g hg hc), fun g hg => by
    rcases k.grows g hg with h1 | h1
    · exact h.grows g h1
    · exact .inr (Nat.le_trans h.size h1)⟩
theorem Moves.below {C C' : Nat → Prop} {w w' : World} {B : Nat} (h : Moves C C' w w') (hC : ∀ g, C g → B ≤ g) (hB : B ≤ w.heap.size) : Below B w w' :=
  ⟨h.os, h.tape, h.output, h.size, fun g hg => h.block g (Nat.lt_of_lt_of_le hg hB) (fun hc => by have := hC g hc; omega)⟩
theorem moves_of {C C' : Nat → Prop} {w w1 w2 : World} (h : Moves C C' w w1) (k : Below w.heap.size w1 w2) : Moves C C' w w2 :=
  ⟨k.os.trans h.os, k.tape.trans h.tape, k.output.trans h.output, Nat.le_trans h.size k.size, fun g hg hc => (k.block g hg).trans (h.block g hg hc), h.grows⟩
/-- What a walk makes of a state, node by node. -/
def RS {σ : Type} (R : σ → Nd → Nat → σ → Prop) : σ → List (Nd × Nat) → σ → Prop
  | s, [], s' => s' = s
  | s, x :: xs, s' => ∃ m, R s x.1 x.2 m ∧ RS R m xs s'
theorem RS.snoc {σ : Type} {R : σ → Nd → Nat → σ → Prop} : ∀ {xs : List (Nd × Nat)} {s m s' : σ} {x : Nd} {d : Nat}, RS R s xs m → R m x d s' → RS R s (xs ++ [(x, d)]) s'
  | [], s, m, s', x, d, h, hr => by
    have h : m = s := h
    subst h
    exact ⟨s', hr, rfl⟩
  | y :: ys, s, m, s', x, d, ⟨q, hq, h⟩, hr => ⟨q, hq, RS.snoc h hr⟩
/-- What has been gone through so far, and how long it is. -/
def Done {σ : Type} (R : σ → Nd → Nat → σ → Prop) (s0 s : σ) (m : Nat) : Prop := ∃ xs, RS R s0 xs s ∧ xs.length = m
theorem done_nil {σ : Type} (R : σ → Nd → Nat → σ → Prop) (s0 : σ) : Done R s0 s0 0 := ⟨[], rfl, rfl⟩
theorem Done.snoc {σ : Type} {R : σ → Nd → Nat → σ → Prop} {s0 s s' : σ} {m : Nat} {x : Nd} {d : Nat} (h : Done R s0 s m) (hr : R s x d s') : Done R s0 s' (m + 1) := by
  obtain ⟨xs, h1, h2⟩ := h
  exact ⟨xs ++ [(x, d)], h1.snoc hr, by simp [h2]⟩
end Go.Proofs.YthnapcdanccohaaDoor

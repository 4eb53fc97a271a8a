/-
  Scopes: the program's blocks: entries and begins of one's own, the map.
-/
import Derived.Test.YtlmfoieolomcfaaSpMath
import Derived.Test.YtlmfoieolomcfaaRet
import Derived.Maps.OwnSet
import Derived.Deep.DeepAppendWide
import Derived.Deep.AppendLies
import Derived.Laws.OwnMore
import Derived.Lib.SmallJoins
namespace Go.Proofs.Ytlmfoieolomcfaa
open Go.RowKit Go.Maps
set_option linter.unusedSimpArgs false
set_option linter.unusedVariables false
def En.cells (e : En) : List Value := [.string e.n, .int .i64 e.f, .int .i64 e.t, .int .i64 e.k, .int .i64 e.o]
def ensC (l : List En) : List Value := l.flatMap En.cells
theorem ensC_snoc (l : List En) (e : En) : ensC (l ++ [e]) = ensC l ++ e.cells := by simp [ensC]
theorem ensC_len (l : List En) : (ensC l).length = l.length * 5 := by
  induction l with
  | nil => rfl
  | cons t l ih => simp only [ensC, List.flatMap_cons, List.length_append, List.length_cons] at *; rw [ih]; simp only [En.cells, List.length_cons, List.length_nil]; omega
theorem ensC_take (l : List En) (k : Nat) : ensC (l.take k) = (ensC l).take (k * 5) := by
  induction l generalizing k with
  | nil => simp [ensC]
  | cons t l ih =>
    cases k with
    | zero => simp [ensC]
    | succ k =>
      show En.cells t ++ ensC (l.take k) = (En.cells t ++ ensC l).take ((k + 1) * 5)
      have hl : t.cells.length = 5 := rfl
      rw [ih, List.take_append, List.take_of_length_le (l := t.cells) (by rw [hl]; omega), hl, show (k + 1) * 5 - 5 = k * 5 by omega]
theorem ensC_at : ∀ (L : List En) (i j : Nat), j < 5 → (ensC L)[i * 5 + j]? = (L[i]?).bind fun t => t.cells[j]? := by
  intro L
  induction L with
  | nil => intro i j _; simp [ensC]
  | cons t L ih =>
    intro i j hj
    have hl : t.cells.length = 5 := rfl
    show (t.cells ++ ensC L)[i * 5 + j]? = _
    cases i with
    | zero => rw [List.getElem?_append_left (by omega)]; simp
    | succ i =>
      rw [List.getElem?_append_right (by omega), hl, show (i + 1) * 5 + j - 5 = i * 5 + j by omega, ih i j hj]
      simp
theorem one_en (e : En) : ∀ u ∈ e.cells, u.oneCell' = true := by
  intro u hu
  simp only [En.cells, List.mem_cons, List.not_mem_nil, or_false] at hu
  rcases hu with rfl | rfl | rfl | rfl | rfl <;> rfl
theorem new_en (w : World) (e : En) (fr : Nat × Nat) : ∀ (j : Nat) (u : Value), e.cells[j]? = some u → (w.alloc (.cells #[.string e.n, .int .i64 e.f, .int .i64 e.t, .int .i64 e.k, .int .i64 e.o] 50 fr)).cell? (Addr.add ⟨w.heap.size, 0, none⟩ j) = some u := by
  intro j u hj
  rw [show Addr.add ⟨w.heap.size, 0, none⟩ j = ⟨w.heap.size, j, none⟩ by simp [Addr.add]; omega, World.cell?_alloc_mark, List.getElem?_toArray]
  exact hj
theorem Try.info50 : (Try.prog.info? 50).map (fun i => (i.zero, i.size, i.bytes)) = some (some (.agg #[.string ⟨#[]⟩, .int .i64 0, .int .i64 0, .int .i64 0, .int .i64 0]), 5, 48) := by kernel_rfl
theorem Try.info3 : (Try.prog.info? 3).map (fun i => (i.zero, i.size, i.bytes)) = some (some (.int .i64 0), 1, 8) := by kernel_rfl
/-- The rows. -/
def OwnEn (w : World) (B : Nat) (v : Value) (l : List En) : Prop := w.ownsRow B 50 5 v l.length (ensC l)
def begC (bs : List Nat) : List Value := bs.map fun (b : Nat) => Value.int .i64 b
def OwnB (w : World) (B : Nat) (v : Value) (bs : List Nat) : Prop := w.ownsRow B 3 1 v bs.length (begC bs)
/-- The key's law and the element's zero. -/
theorem sp_law : Keyed Try.prog 9 := string_keyed Try.underlying9
theorem sp_zero (w : World) : (zeroValue 3).run Try.prog w = .ok (.int .i64 0) w := by kernel_rfl
abbrev keyL (s : ByteArray) : Lit := .string s.data.toList
/-- Block b is a map of at most n entries; a name stands for f of it, where that isn't below nought. -/
def MapF (w : World) (b n : Nat) (f : ByteArray → Int) : Prop :=
  ∃ D : DataW Unit, w.ownsMap Try.prog 9 (plainElem Try.prog 3) b n D ∧ ∀ s : ByteArray, s.size ≤ maxLen → has D (keyL s) = decide (0 ≤ f s) ∧ (0 ≤ f s → ∀ z, D.atKey (keyL s) z = .lit (.int .i64 (f s)))
theorem keyL_ne {s t : ByteArray} (h : s ≠ t) : keyL s ≠ keyL t := by
  intro e
  apply h
  injection e with e
  have : s.data = t.data := by
    apply Array.ext'
    exact e
  cases s; cases t; simp_all
theorem keyL_is (s : ByteArray) : WideAt.IsKeyLit (keyL s) := by
  first | exact trivial | (unfold WideAt.IsKeyLit; trivial) | simp [WideAt.IsKeyLit]
theorem mapF_new (w : World) (f : ByteArray → Int) (hf : ∀ s, f s < 0) : MapF (w.alloc (.map #[] 0)) w.heap.size 0 f :=
  ⟨.map [], World.ownsMap_made _ _ _ _, fun s _ => ⟨by have := hf s; simp [has_eq]; omega, fun h => by have := hf s; omega⟩⟩
theorem MapF.lt {w : World} {b n : Nat} {f : ByteArray → Int} (h : MapF w b n f) : b < w.heap.size := by
  obtain ⟨D, h1, _⟩ := h
  exact h1.lt
theorem MapF.kept {w w' : World} {b n : Nat} {f : ByteArray → Int} (h : MapF w b n f) (hb : w'.heap[b]? = w.heap[b]?) : MapF w' b n f := by
  obtain ⟨D, ⟨es, clock, h1, h2⟩, h3⟩ := h
  exact ⟨D, ⟨es, clock, hb.trans h1, h2⟩, h3⟩
theorem MapF.mono {w : World} {b n n' : Nat} {f : ByteArray → Int} (h : MapF w b n f) (hn : n ≤ n') : MapF w b n' f := by
  obtain ⟨D, h1, h2⟩ := h
  exact ⟨D, h1.mono hn, h2⟩
theorem MapF.ext {w : World} {b n : Nat} {f f' : ByteArray → Int} (h : MapF w b n f) (hf : ∀ s, f' s = f s) : MapF w b n f' := by
  have : f' = f := funext hf
  rw [this]; exact h
/-- The map, or none of it. -/
def MapOk (w : World) (g : Nat) (mo : Option Nat) (es : List En) (q : Nat) : Prop :=
  match mo with
  | none => es = []
  | some b => g < b ∧ ∃ m, MapF w b m (fun s => plc s es) ∧ m + es.length ≤ q
/-- The state: block g and those that S tells: the entries, the begins, the map. -/
structure ScW (w : World) (g : Nat) (S : Nat → Prop) (es : List En) (bs : List Nat) (ve vb : Value) (mo : Option Nat) (q : Nat) : Prop where
  blk : w.heap[g]? = some (.cells #[ve, vb, .map mo] 48 (0, 0))
  ens : OwnEn w (g + 1) ve es
  bgs : OwnB w (g + 1) vb bs
  map : MapOk w g mo es q
  sg : S g
  se : ∀ k, ve.ownBlock = some k → S k
  sb : ∀ k, vb.ownBlock = some k → S k
  sm : ∀ k, mo = some k → S k
  lt : ∀ k, S k → k < w.heap.size
  inv : Inv es bs
  few : es.length ≤ q ∧ bs.length ≤ q
  nm : ∀ e ∈ es, e.n.size ≤ 1000
end Go.Proofs.Ytlmfoieolomcfaa

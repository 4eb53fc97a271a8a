/-
  Edits that a slice holds; append of one.
-/
import Derived.Test.YtpjpghigilbfaaaEdMath
import Derived.Test.YtpjpghigilbfaaaRet
import Derived.Deep.DeepAppendWide
import Derived.Lib.SmallJoins
import Derived.Laws.OwnMore
namespace Go.Proofs.Ytpjpghigilbfaaa
open Go.RowKit
set_option linter.unusedSimpArgs false
set_option linter.unusedVariables false
def Ed.cells (e : Ed) : List Value := [.int .i64 e.p, .int .i64 e.n, .string e.s]
def edsC (l : List Ed) : List Value := l.flatMap Ed.cells
theorem edsC_snoc (l : List Ed) (e : Ed) : edsC (l ++ [e]) = edsC l ++ e.cells := by simp [edsC]
/-- Edits that the call's own slice holds. -/
def OwnE (w : World) (base : Nat) (v : Value) (l : List Ed) : Prop := w.ownsRow base 29 3 v l.length (edsC l)
theorem Try.info29 : (Try.prog.info? 29).map (fun i => (i.zero, i.size, i.bytes)) = some (some (.agg #[.int .i64 0, .int .i64 0, .string ⟨#[]⟩]), 3, 32) := by kernel_rfl
theorem ownE_nil (w : World) (base : Nat) : OwnE w base (.slice none 0 0) [] := ⟨by simp [edsC], .inl ⟨rfl, rfl⟩⟩
theorem one_ed (e : Ed) : ∀ u ∈ e.cells, u.oneCell' = true := by
  intro u hu
  simp only [Ed.cells, List.mem_cons, List.not_mem_nil, or_false] at hu
  rcases hu with rfl | rfl | rfl <;> rfl
theorem new_ed (w : World) (e : Ed) (fr : Nat × Nat) : ∀ (j : Nat) (u : Value), e.cells[j]? = some u → (w.alloc (.cells #[.int .i64 e.p, .int .i64 e.n, .string e.s] 29 fr)).cell? (Addr.add ⟨w.heap.size, 0, none⟩ j) = some u := by
  intro j u hj
  rw [show Addr.add ⟨w.heap.size, 0, none⟩ j = ⟨w.heap.size, j, none⟩ by simp [Addr.add]; omega, World.cell?_alloc_mark, List.getElem?_toArray]
  exact hj
theorem wp_append_ed {w : World} {o : Oper} {a : Act} {K : Act → World → Prop} {Q : Exit → Act → World → Prop} (s x : Operand)
    (ho : o.op = .call { callee := .builtin .append, args := #[s, x], argTypes := #[22, 22] })
    {base : Nat} {v : Value} {l : List Ed} (e : Ed) (hs : a.eval s = v) (hown : OwnE w base v l) (ad : Addr) (hx : a.eval x = .slice (some ad) 1 1)
    (hnews : ∀ (j : Nat) (u : Value), e.cells[j]? = some u → w.cell? (ad.add j) = some u) (hl : l.length ≤ 1000000) (hbase : base ≤ w.heap.size)
    (h : ∀ v' w', OwnE w' base v' (l ++ [e]) → w.grownBy w' v.ownBlock → K (a.put o.dst v') w') : o.wp Try.prog a w K Q := by
  obtain ⟨i0, hi, hz0, hz1, hz2⟩ := info_parts Try.info29
  refine wp_append_own_wide w s x 22 ho base 29 i0 _ 3 32 Try.underlying22 hi hz0 hz1 hz2 rfl (by decide) v l.length (edsC l) hs hown ad 1 1 e.cells hx rfl hnews (one_ed e) (by unfold maxLen; omega) (by omega) hbase ?_
  intro v' w' h1 h2 _
  refine h v' w' ?_ h2
  unfold OwnE
  rw [edsC_snoc, List.length_append]
  exact h1
theorem edsC_at : ∀ (L : List Ed) (i j : Nat), j < 3 → (edsC L)[i * 3 + j]? = (L[i]?).bind fun t => t.cells[j]? := by
  intro L
  induction L with
  | nil => intro i j _; simp [edsC]
  | cons t L ih =>
    intro i j hj
    have hl : t.cells.length = 3 := rfl
    show (t.cells ++ edsC L)[i * 3 + j]? = _
    cases i with
    | zero => rw [List.getElem?_append_left (by omega)]; simp
    | succ i =>
      rw [List.getElem?_append_right (by omega), hl, show (i + 1) * 3 + j - 3 = i * 3 + j by omega, ih i j hj]
      simp
theorem edsC_len (l : List Ed) : (edsC l).length = l.length * 3 := by
  induction l with
  | nil => rfl
  | cons t l ih => simp only [edsC, List.flatMap_cons, List.length_append, List.length_cons] at *; rw [ih]; simp only [Ed.cells, List.length_cons, List.length_nil]; omega
/-- The cells at a place are an edit's. -/
def EdAt (w : World) (g o : Nat) (e : Ed) : Prop :=
  w.cell? ⟨g, o, none⟩ = some (.int .i64 e.p) ∧ w.cell? ⟨g, o + 1, none⟩ = some (.int .i64 e.n) ∧ w.cell? ⟨g, o + 2, none⟩ = some (.string e.s)
/-- A slice holds these edits. -/
def Eds (w : World) (v : Value) (L : List Ed) : Prop :=
  ∃ a c, v = .slice a L.length c ∧ L.length ≤ c ∧ c ≤ maxLen ∧ (0 < L.length → ∃ g off, a = some ⟨g, off, none⟩ ∧ g < w.heap.size ∧ ∀ i, i < L.length → EdAt w g (off + i * 3) (L.getD i ed0))
theorem own_eds {w : World} {base : Nat} {v : Value} {L : List Ed} (h : OwnE w base v L) : Eds w v L := by
  rcases h.2 with ⟨rfl, hz⟩ | ⟨g, cap, cur, rfl, hb, hg, hnc, hcm, _⟩
  · exact ⟨none, 0, by rw [hz], by omega, Nat.zero_le _, fun h0 => by omega⟩
  · refine ⟨_, cap, rfl, hnc, hcm, fun h0 => ⟨g, 0, rfl, (Array.getElem?_eq_some_iff.1 hg).1, fun i hi => ?_⟩⟩
    have ht : L[i]? = some (L.getD i ed0) := by simp [List.getD, hi]
    have hc : ∀ j, j < 3 → w.cell? ⟨g, 0 + i * 3 + j, none⟩ = (L.getD i ed0).cells[j]? := fun j hj => by
      rw [Nat.zero_add, World.ownsRow.cellAt h _ (by omega), edsC_at L i j hj, ht]; rfl
    exact ⟨hc 0 (by omega), hc 1 (by omega), hc 2 (by omega)⟩
theorem EdAt.below {w w' : World} {g o : Nat} {e : Ed} (h : EdAt w g o e) (hg : g < w.heap.size) (hb : Below w.heap.size w w') : EdAt w' g o e := by
  obtain ⟨h0, h1, h2⟩ := h
  exact ⟨by rw [hb.cell hg]; exact h0, by rw [hb.cell hg]; exact h1, by rw [hb.cell hg]; exact h2⟩
theorem Eds.below {w w' : World} {v : Value} {L : List Ed} (h : Eds w v L) (hb : Below w.heap.size w w') : Eds w' v L := by
  obtain ⟨a, c, h1, h2, h3, h4⟩ := h
  refine ⟨a, c, h1, h2, h3, fun h0 => ?_⟩
  obtain ⟨g, off, e, hg, hc⟩ := h4 h0
  exact ⟨g, off, e, Nat.lt_of_lt_of_le hg hb.size, fun i hi => (hc i hi).below hg hb⟩
end Go.Proofs.Ytpjpghigilbfaaa

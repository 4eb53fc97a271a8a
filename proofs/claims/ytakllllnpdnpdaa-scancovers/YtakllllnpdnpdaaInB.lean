/-
  A word is one of some: which one. No program.
-/
import Derived.WalkKit
namespace Go.Proofs.Ytakllllnpdnpdaa
/-- A word is one of some. -/
def inB (s : ByteArray) (l : List ByteArray) : Bool := l.any fun k => s.data.toList == k.data.toList
/-- Which one it is, from i on; -1: none. -/
def idxB (s : ByteArray) : List ByteArray → Int → Int
  | [], _ => -1
  | k :: l, i => if s.data.toList == k.data.toList then i else idxB s l (i + 1)
theorem same_of {s k : ByteArray} (h : (s.data.toList == k.data.toList) = true) : s = k := by
  rw [beq_iff_eq] at h
  exact ByteArray.ext (Array.toList_inj.1 h)
theorem inB_mem {s : ByteArray} {l : List ByteArray} (h : inB s l = true) : s ∈ l := by
  rw [inB, List.any_eq_true] at h
  obtain ⟨k, hk, he⟩ := h
  rw [same_of he]
  exact hk
theorem idxB_mem {s : ByteArray} : ∀ {l : List ByteArray} {i : Int}, idxB s l i ≠ -1 → s ∈ l := by
  intro l
  induction l with
  | nil => intro i h; exact absurd rfl h
  | cons k l ih =>
    intro i h
    rw [idxB] at h
    split at h
    · rename_i he
      rw [same_of he]
      exact List.mem_cons_self
    · exact List.mem_cons_of_mem _ (ih h)
theorem idxB_skip {s : ByteArray} : ∀ (l : List ByteArray) (k : Nat) (i : Int), (∀ j, j < k → ∀ x, l[j]? = some x → (s.data.toList == x.data.toList) = false) → idxB s l i = idxB s (l.drop k) (i + k) := by
  intro l k
  induction k generalizing l with
  | zero => intro i _; simp
  | succ k ih =>
    intro i h
    cases l with
    | nil => simp [idxB]
    | cons x l =>
      have h0 := h 0 (by omega) x rfl
      rw [idxB, h0, if_neg (by decide), ih l (i + 1) (fun j hj y hy => h (j + 1) (by omega) y (by simpa using hy))]
      simp only [List.drop_succ_cons]
      congr 1
      omega
theorem inB_at {s : ByteArray} {xs : List ByteArray} (k : Nat) (hk : k < xs.length) (h : (s.data.toList == (xs.getD k ⟨#[]⟩).data.toList) = true) : inB s xs = true := by
  rw [inB, List.any_eq_true]
  refine ⟨xs.getD k ⟨#[]⟩, ?_, h⟩
  simp [List.getD, hk]
theorem inB_none {s : ByteArray} {xs : List ByteArray} (h : ∀ j, j < xs.length → (s.data.toList == (xs.getD j ⟨#[]⟩).data.toList) = false) : inB s xs = false := by
  rw [inB, List.any_eq_false]
  intro x hx
  obtain ⟨j, hj, rfl⟩ := List.getElem_of_mem hx
  have := h j hj
  simp only [List.getD, hj, getElem?_pos, Option.getD_some] at this
  rw [this]
  decide
theorem eq_flip (a b : ByteArray) : (a.toList == b.toList) = (b.data.toList == a.data.toList) := by
  rw [ByteArray.toList_eq, ByteArray.toList_eq, BEq.comm]
end Go.Proofs.Ytakllllnpdnpdaa

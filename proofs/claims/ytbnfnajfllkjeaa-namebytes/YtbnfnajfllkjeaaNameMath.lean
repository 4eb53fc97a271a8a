/-
  Names: which bytes make one, which words are keys, the world's. No program.
-/
import Derived.Test.YtbnfnajfllkjeaaByte
import Derived.KernelRfl
namespace Go.Proofs.Ytbnfnajfllkjeaa
def lowB (c : Nat) : Bool := decide (97 ≤ c) && decide (c ≤ 122)
def digB (c : Nat) : Bool := decide (48 ≤ c) && decide (c ≤ 57)
def letB (c : Nat) : Bool := decide (c = 95) || lowB c || (decide (65 ≤ c) && decide (c ≤ 90))
def wordB (c : Nat) : Bool := letB c || digB c
def fileB (c : Nat) : Bool := lowB c || digB c || decide (c = 46) || decide (c = 45) || decide (c = 95)
/-- Every byte is such a one. -/
def allB (p : Nat → Bool) (s : ByteArray) : Bool := (List.range s.size).all fun i => p (byteAt s i)
theorem allB_true {p : Nat → Bool} {s : ByteArray} (h : ∀ i, i < s.size → p (byteAt s i) = true) : allB p s = true := by
  rw [allB, List.all_eq_true]
  intro i hi
  exact h i (List.mem_range.1 hi)
theorem allB_false {p : Nat → Bool} {s : ByteArray} (i : Nat) (hi : i < s.size) (h : p (byteAt s i) = false) : allB p s = false := by
  rw [allB, List.all_eq_false]
  exact ⟨i, List.mem_range.2 hi, by rw [h]; decide⟩
def keysB : List ByteArray := [⟨#[112, 97, 99, 107, 97, 103, 101]⟩, ⟨#[105, 109, 112, 111, 114, 116]⟩, ⟨#[118, 97, 114]⟩, ⟨#[99, 111, 110, 115, 116]⟩, ⟨#[116, 121, 112, 101]⟩, ⟨#[115, 116, 114, 117, 99, 116]⟩, ⟨#[102, 117, 110, 99]⟩, ⟨#[105, 102]⟩, ⟨#[101, 108, 115, 101]⟩, ⟨#[102, 111, 114]⟩, ⟨#[114, 101, 116, 117, 114, 110]⟩, ⟨#[98, 114, 101, 97, 107]⟩, ⟨#[99, 111, 110, 116, 105, 110, 117, 101]⟩]
def worldB : List ByteArray := [⟨#[105, 110, 116]⟩, ⟨#[115, 116, 114, 105, 110, 103]⟩, ⟨#[98, 111, 111, 108]⟩, ⟨#[116, 114, 117, 101]⟩, ⟨#[102, 97, 108, 115, 101]⟩]
/-- A word is one of some. -/
def inB (s : ByteArray) (l : List ByteArray) : Bool := l.any fun k => s.data.toList == k.data.toList
/-- Which one it is, from i on; -1: none. -/
def idxB (s : ByteArray) : List ByteArray → Int → Int
  | [], _ => -1
  | k :: l, i => if s.data.toList == k.data.toList then i else idxB s l (i + 1)
def isKey (s : ByteArray) : Bool := inB s keysB
def worldN (s : ByteArray) : Int := idxB s worldB 0
def isN (s : ByteArray) : Bool := decide (1 ≤ s.size) && decide (s.size ≤ 24) && !digB (byteAt s 0) && !isKey s && allB wordB s
def fileN (s : ByteArray) : Bool := decide (1 ≤ s.size) && decide (s.size ≤ 16) && !decide (byteAt s 0 = 46) && allB fileB s
theorem same_of {s k : ByteArray} (h : (s.data.toList == k.data.toList) = true) : s = k := by
  rw [beq_iff_eq] at h
  exact ByteArray.ext (Array.toList_inj.1 h)
theorem inB_mem {s : ByteArray} {l : List ByteArray} (h : inB s l = true) : s ∈ l := by
  rw [inB, List.any_eq_true] at h
  obtain ⟨k, hk, he⟩ := h
  rw [same_of he]
  exact hk
theorem idxB_mem {s : ByteArray} : ∀ {l : List ByteArray} {i : Int}, idxB s l i ≠ -1 → s ∈ l := by
  intro l
  induction l with
  | nil => intro i h; exact absurd rfl h
  | cons k l ih =>
    intro i h
    rw [idxB] at h
    split at h
    · rename_i he
      rw [same_of he]
      exact List.mem_cons_self
    · exact List.mem_cons_of_mem _ (ih h)
theorem idxB_skip {s : ByteArray} : ∀ (l : List ByteArray) (k : Nat) (i : Int), (∀ j, j < k → ∀ x, l[j]? = some x → (s.data.toList == x.data.toList) = false) → idxB s l i = idxB s (l.drop k) (i + k) := by
  intro l k
  induction k generalizing l with
  | zero => intro i _; simp
  | succ k ih =>
    intro i h
    cases l with
    | nil => simp [idxB]
    | cons x l =>
      have h0 := h 0 (by omega) x rfl
      rw [idxB, h0, if_neg (by decide), ih l (i + 1) (fun j hj y hy => h (j + 1) (by omega) y (by simpa using hy))]
      simp only [List.drop_succ_cons]
      congr 1
      omega
theorem worldN_range (s : ByteArray) : -1 ≤ worldN s ∧ worldN s ≤ 4 := by
  unfold worldN worldB
  simp only [idxB]
  repeat' split
  all_goals omega
/-- A key is no name; with an x behind it is one, and no key. -/
theorem key_facts (s : ByteArray) (h : isKey s = true) : isN s = false ∧ isN (s ++ ⟨#[120]⟩) = true ∧ isKey (s ++ ⟨#[120]⟩) = false := by
  have hm := inB_mem h
  simp only [keysB, List.mem_cons, List.not_mem_nil, or_false] at hm
  rcases hm with rfl | rfl | rfl | rfl | rfl | rfl | rfl | rfl | rfl | rfl | rfl | rfl | rfl
  all_goals exact ⟨by kernel_rfl, by kernel_rfl, by kernel_rfl⟩
theorem world_facts (s : ByteArray) (h : 0 ≤ worldN s) : isN s = true ∧ isKey s = false := by
  have hm : s ∈ worldB := idxB_mem (i := 0) (by unfold worldN at h; omega)
  simp only [worldB, List.mem_cons, List.not_mem_nil, or_false] at hm
  rcases hm with rfl | rfl | rfl | rfl | rfl
  all_goals exact ⟨by kernel_rfl, by kernel_rfl⟩
end Go.Proofs.Ytbnfnajfllkjeaa

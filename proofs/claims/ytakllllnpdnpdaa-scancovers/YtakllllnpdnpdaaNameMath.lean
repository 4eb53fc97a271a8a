/-
  Names: which bytes make one, which words are keys, the world's. No program.
-/
import Derived.Test.YtakllllnpdnpdaaByte
import Derived.Test.YtakllllnpdnpdaaInB
import Derived.KernelRfl
namespace Go.Proofs.Ytakllllnpdnpdaa
def lowB (c : Nat) : Bool := decide (97 ≤ c) && decide (c ≤ 122)
def digB (c : Nat) : Bool := decide (48 ≤ c) && decide (c ≤ 57)
def letB (c : Nat) : Bool := decide (c = 95) || lowB c || (decide (65 ≤ c) && decide (c ≤ 90))
def wordB (c : Nat) : Bool := letB c || digB c
def fileB (c : Nat) : Bool := lowB c || digB c || decide (c = 46) || decide (c = 45) || decide (c = 95)
/-- Every byte is such a one. -/
def allB (p : Nat → Bool) (s : ByteArray) : Bool := (List.range s.size).all fun i => p (byteAt s i)
theorem allB_true {p : Nat → Bool} {s : ByteArray} (h : ∀ i, i < s.size → p (byteAt s i) = true) : allB p s = true := by
  rw [allB, List.all_eq_true]
  intro i hi
  exact h i (List.mem_range.1 hi)
theorem allB_false {p : Nat → Bool} {s : ByteArray} (i : Nat) (hi : i < s.size) (h : p (byteAt s i) = false) : allB p s = false := by
  rw [allB, List.all_eq_false]
  exact ⟨i, List.mem_range.2 hi, by rw [h]; decide⟩
def keysB : List ByteArray := [⟨#[112, 97, 99, 107, 97, 103, 101]⟩, ⟨#[105, 109, 112, 111, 114, 116]⟩, ⟨#[118, 97, 114]⟩, ⟨#[99, 111, 110, 115, 116]⟩, ⟨#[116, 121, 112, 101]⟩, ⟨#[115, 116, 114, 117, 99, 116]⟩, ⟨#[102, 117, 110, 99]⟩, ⟨#[105, 102]⟩, ⟨#[101, 108, 115, 101]⟩, ⟨#[102, 111, 114]⟩, ⟨#[114, 101, 116, 117, 114, 110]⟩, ⟨#[98, 114, 101, 97, 107]⟩, ⟨#[99, 111, 110, 116, 105, 110, 117, 101]⟩]
def worldB : List ByteArray := [⟨#[105, 110, 116]⟩, ⟨#[115, 116, 114, 105, 110, 103]⟩, ⟨#[98, 111, 111, 108]⟩, ⟨#[116, 114, 117, 101]⟩, ⟨#[102, 97, 108, 115, 101]⟩]
def isKey (s : ByteArray) : Bool := inB s keysB
def worldN (s : ByteArray) : Int := idxB s worldB 0
def isN (s : ByteArray) : Bool := decide (1 ≤ s.size) && decide (s.size ≤ 24) && !digB (byteAt s 0) && !isKey s && allB wordB s
def fileN (s : ByteArray) : Bool := decide (1 ≤ s.size) && decide (s.size ≤ 16) && !decide (byteAt s 0 = 46) && allB fileB s
theorem worldN_range (s : ByteArray) : -1 ≤ worldN s ∧ worldN s ≤ 4 := by
  unfold worldN worldB
  simp only [idxB]
  repeat' split
  all_goals omega
/-- A key is no name; with an x behind it is one, and no key. -/
theorem key_facts (s : ByteArray) (h : isKey s = true) : isN s = false ∧ isN (s ++ ⟨#[120]⟩) = true ∧ isKey (s ++ ⟨#[120]⟩) = false := by
  have hm := inB_mem h
  simp only [keysB, List.mem_cons, List.not_mem_nil, or_false] at hm
  rcases hm with rfl | rfl | rfl | rfl | rfl | rfl | rfl | rfl | rfl | rfl | rfl | rfl | rfl
  all_goals exact ⟨by kernel_rfl, by kernel_rfl, by kernel_rfl⟩
theorem world_facts (s : ByteArray) (h : 0 ≤ worldN s) : isN s = true ∧ isKey s = false := by
  have hm : s ∈ worldB := idxB_mem (i := 0) (by unfold worldN at h; omega)
  simp only [worldB, List.mem_cons, List.not_mem_nil, or_false] at hm
  rcases hm with rfl | rfl | rfl | rfl | rfl
  all_goals exact ⟨by kernel_rfl, by kernel_rfl⟩
theorem low_iff (c : Nat) : lowB c = true ↔ 97 ≤ c ∧ c ≤ 122 := by simp [lowB]
theorem dig_iff (c : Nat) : digB c = true ↔ 48 ≤ c ∧ c ≤ 57 := by simp [digB]
theorem word_iff (c : Nat) : wordB c = true ↔ (c = 95 ∨ 97 ≤ c ∧ c ≤ 122 ∨ 65 ≤ c ∧ c ≤ 90 ∨ 48 ≤ c ∧ c ≤ 57) := by simp [wordB, letB, lowB, digB, or_assoc]
theorem let_iff (c : Nat) : letB c = true ↔ (c = 95 ∨ 97 ≤ c ∧ c ≤ 122 ∨ 65 ≤ c ∧ c ≤ 90) := by simp [letB, lowB, or_assoc]
theorem file_iff (c : Nat) : fileB c = true ↔ (97 ≤ c ∧ c ≤ 122 ∨ 48 ≤ c ∧ c ≤ 57 ∨ c = 46 ∨ c = 45 ∨ c = 95) := by simp [fileB, lowB, digB, or_assoc]
theorem not_true {b : Bool} {p : Prop} (h : b = true ↔ p) (hb : b = false) : ¬ p := fun hp => by rw [h.2 hp] at hb; cases hb
theorem is_false {b : Bool} {p : Prop} (h : b = true ↔ p) (hp : ¬ p) : b = false := by
  cases hb : b with
  | false => rfl
  | true => exact absurd (h.1 hb) hp
end Go.Proofs.Ytakllllnpdnpdaa

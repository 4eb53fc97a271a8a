/-
  Trees: forests of nodes, how many, how deep, gone through. No program.
-/
import Derived.WalkKit
namespace Go.Proofs.YthnapcdanccohaaDoor
/-- A list of trees: the first node's kind, token, what is beneath it; the rest. -/
inductive F where
  | nil
  | cons (k t : Int) (c r : F)
deriving DecidableEq
/-- A tree. -/
structure Nd where
  k : Int
  t : Int
  c : F
deriving DecidableEq
def F.len : F → Nat
  | .nil => 0
  | .cons _ _ _ r => r.len + 1
/-- How many nodes. -/
def F.size : F → Nat
  | .nil => 0
  | .cons _ _ c r => c.size + 1 + r.size
def F.deep : F → Nat
  | .nil => 0
  | .cons _ _ c r => max (c.deep + 1) r.deep
def F.drop : F → Nat → F
  | f, 0 => f
  | .nil, _ + 1 => .nil
  | .cons _ _ _ r, i + 1 => r.drop i
def F.toL : F → List Nd
  | .nil => []
  | .cons k t c r => ⟨k, t, c⟩ :: r.toL
def F.ofL : List Nd → F
  | [] => .nil
  | n :: l => .cons n.k n.t n.c (F.ofL l)
def F.app : F → F → F
  | .nil, g => g
  | .cons k t c r, g => .cons k t c (r.app g)
theorem F.len_le_size : ∀ f : F, f.len ≤ f.size
  | .nil => Nat.le_refl _
  | .cons _ _ _ r => by have := r.len_le_size; simp only [F.len, F.size]; omega
theorem F.deep_le_size : ∀ f : F, f.deep ≤ f.size
  | .nil => Nat.le_refl _
  | .cons _ _ c r => by have := c.deep_le_size; have := r.deep_le_size; simp only [F.deep, F.size]; omega
theorem F.drop_nil (i : Nat) : F.nil.drop i = .nil := by cases i <;> rfl
theorem F.drop_len : ∀ (f : F) (i : Nat), (f.drop i).len = f.len - i
  | f, 0 => by cases f <;> rfl
  | .nil, i + 1 => by simp [F.drop, F.len]
  | .cons _ _ _ r, i + 1 => by simp only [F.drop, F.len, r.drop_len i]; omega
theorem F.drop_succ : ∀ (f : F) (i : Nat) {k t : Int} {c r : F}, f.drop i = .cons k t c r → f.drop (i + 1) = r
  | .nil, i, k, t, c, r, h => by rw [F.drop_nil] at h; cases h
  | .cons _ _ _ r', 0, k, t, c, r, h => by
    simp only [F.drop] at h
    injection h with _ _ _ h
    subst h
    cases r' <;> rfl
  | .cons _ _ _ r', i + 1, k, t, c, r, h => F.drop_succ r' i h
theorem F.drop_cons {f : F} {i : Nat} (h : i < f.len) : ∃ k t c, f.drop i = .cons k t c (f.drop (i + 1)) := by
  cases hd : f.drop i with
  | nil => have := f.drop_len i; rw [hd] at this; simp only [F.len] at this; omega
  | cons k t c r => exact ⟨k, t, c, by rw [F.drop_succ f i hd]⟩
theorem F.drop_size {f : F} {i : Nat} {k t : Int} {c : F} (h : f.drop i = .cons k t c (f.drop (i + 1))) : c.size < f.size := by
  have key : ∀ (f : F) (i : Nat), (f.drop i).size ≤ f.size := by
    intro f
    induction f with
    | nil => intro i; rw [F.drop_nil]; exact Nat.le_refl _
    | cons k t c r _ ih =>
      intro i
      cases i with
      | zero => exact Nat.le_refl _
      | succ i => have := ih i; simp only [F.drop, F.size]; omega
  have := key f i
  rw [h] at this
  simp only [F.size] at this
  omega
theorem F.drop_end {f : F} {i : Nat} (h : f.len ≤ i) : f.drop i = .nil := by
  cases hd : f.drop i with
  | nil => rfl
  | cons k t c r => have := f.drop_len i; rw [hd] at this; simp only [F.len] at this; omega
/-- What is gone through: a node, and, where A says yes to its kind, what is beneath it; each with its depth. -/
def vis (A : Int → Bool) : F → Nat → List (Nd × Nat)
  | .nil, _ => []
  | .cons k t c r, d => (⟨k, t, c⟩, d) :: ((if A k then vis A c (d + 1) else []) ++ vis A r d)
def visN (A : Int → Bool) (n : Nd) : List (Nd × Nat) := (n, 1) :: if A n.k then vis A n.c 2 else []
/-- What is still to come of lists upon one another, the topmost first. -/
def rem (A : Int → Bool) : List F → List (Nd × Nat)
  | [] => []
  | f :: fs => vis A f (fs.length + 2) ++ rem A fs
theorem rem_nil (A : Int → Bool) (fs : List F) : rem A (.nil :: fs) = rem A fs := rfl
theorem rem_cons (A : Int → Bool) (k t : Int) (c r : F) (fs : List F) : rem A (.cons k t c r :: fs) = (⟨k, t, c⟩, fs.length + 2) :: rem A (if A k then c :: r :: fs else r :: fs) := by
  cases h : A k with
  | true => simp only [rem, vis, h, if_true, List.length_cons, List.cons_append, List.append_assoc]
  | false => simp only [rem, vis, h, Bool.false_eq_true, if_false, List.cons_append, List.nil_append]
/-- How long it may last. -/
def mu : List F → Nat
  | [] => 0
  | f :: fs => 2 * f.size + 1 + mu fs
theorem mu_nil (fs : List F) : mu (.nil :: fs) = mu fs + 1 := by simp only [mu, F.size]; omega
theorem mu_cons (A : Int → Bool) (k t : Int) (c r : F) (fs : List F) : mu (if A k then c :: r :: fs else r :: fs) + 1 ≤ mu (.cons k t c r :: fs) := by
  split
  · simp only [mu, F.size]; omega
  · simp only [mu, F.size]; omega
theorem mu_len : ∀ fs : List F, fs.length ≤ mu fs
  | [] => Nat.le_refl _
  | f :: fs => by have := mu_len fs; simp only [mu, List.length_cons]; omega
def Nd.size (n : Nd) : Nat := n.c.size + 1
def Nd.deep (n : Nd) : Nat := n.c.deep + 1
def allA : Int → Bool := fun _ => true
theorem vis_len : ∀ (f : F) (d : Nat), (vis allA f d).length = f.size
  | .nil, _ => rfl
  | .cons _ _ c r, d => by
    simp only [vis, allA, if_true, List.length_cons, List.length_append, F.size]
    have h1 := vis_len c (d + 1)
    have h2 := vis_len r d
    omega
/-- The deepest. -/
def maxD (d0 : Int) : List (Nd × Nat) → Int
  | [] => d0
  | x :: xs => maxD (max d0 x.2) xs
theorem maxD_append (d0 : Int) : ∀ xs ys, maxD d0 (xs ++ ys) = maxD (maxD d0 xs) ys
  | [], _ => rfl
  | x :: xs, ys => maxD_append (max d0 x.2) xs ys
theorem vis_deep : ∀ (f : F) (d : Nat) (d0 : Int), maxD d0 (vis allA f d) = if f.len = 0 then d0 else max d0 ((d + f.deep - 1 : Nat) : Int)
  | .nil, d, d0 => rfl
  | .cons k t c r, d, d0 => by
    have h1 := vis_deep c (d + 1) (max d0 (d : Int))
    have h2 := fun e => vis_deep r d e
    have hc : c.len = 0 ↔ c.deep = 0 := by cases c <;> simp [F.len, F.deep]
    have hr : r.len = 0 ↔ r.deep = 0 := by cases r <;> simp [F.len, F.deep]
    rw [show vis allA (.cons k t c r) d = (⟨k, t, c⟩, d) :: (vis allA c (d + 1) ++ vis allA r d) from rfl, maxD, maxD_append, h1, h2]
    rw [if_neg (show ¬ (F.cons k t c r).len = 0 by simp [F.len])]
    simp only [F.deep]
    split <;> split <;> omega
theorem visN_deep (n : Nd) : maxD 0 (visN allA n) = n.deep := by
  rw [show visN allA n = (n, 1) :: vis allA n.c 2 from rfl, maxD, vis_deep]
  have hc : n.c.len = 0 ↔ n.c.deep = 0 := by cases n.c <;> simp [F.len, F.deep]
  simp only [Nd.deep]
  split <;> omega
theorem visN_len (n : Nd) : (visN allA n).length = n.size := by
  rw [show visN allA n = (n, 1) :: vis allA n.c 2 from rfl, List.length_cons, vis_len]
  rfl
end Go.Proofs.YthnapcdanccohaaDoor

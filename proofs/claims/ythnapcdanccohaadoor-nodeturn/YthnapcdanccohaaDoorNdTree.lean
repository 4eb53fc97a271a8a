/-
  The tree of a list of numbers, as a function of the list (no program).
-/
import Derived.Test.YthnapcdanccohaaDoorNdMath
namespace Go.Proofs.YthnapcdanccohaaDoor
open Go.RowKit
/-- The nodes beneath one that stands d deep, from the i-th number on; and how far it comes. -/
def lpI (K T : Int → Int) (O : Int → Bool) (zs : List Int) : Nat → Nat → Nat → F × Nat
  | 0, _, i => (.nil, i)
  | f + 1, d, i => if d < 6 ∧ i < zs.length ∧ O (zs.getD i 0) = true then
      (.cons (K (zs.getD i 0)) (T (zs.getD i 0)) (lpI K T O zs f (d + 1) (i + 1)).1 (lpI K T O zs f d (lpI K T O zs f (d + 1) (i + 1)).2).1, (lpI K T O zs f d (lpI K T O zs f (d + 1) (i + 1)).2).2)
    else (.nil, i)
theorem lpI_le (K T : Int → Int) (O : Int → Bool) (zs : List Int) : ∀ (f d i : Nat), i ≤ (lpI K T O zs f d i).2
  | 0, _, _ => Nat.le_refl _
  | f + 1, d, i => by
    unfold lpI
    split
    · have h1 := lpI_le K T O zs f (d + 1) (i + 1)
      have h2 := lpI_le K T O zs f d (lpI K T O zs f (d + 1) (i + 1)).2
      dsimp only
      omega
    · exact Nat.le_refl _
theorem lpI_fuel (K T : Int → Int) (O : Int → Bool) (zs : List Int) : ∀ (f f' d i : Nat), zs.length - i ≤ f → zs.length - i ≤ f' → lpI K T O zs f d i = lpI K T O zs f' d i := by
  intro f
  induction f with
  | zero =>
    intro f' d i h h'
    cases f' with
    | zero => rfl
    | succ f' =>
      unfold lpI
      rw [if_neg (by omega)]
  | succ f ih =>
    intro f' d i h h'
    cases f' with
    | zero =>
      unfold lpI
      rw [if_neg (by omega)]
    | succ f' =>
      unfold lpI
      split
      · have h1 := lpI_le K T O zs f' (d + 1) (i + 1)
        rw [ih f' (d + 1) (i + 1) (by omega) (by omega), ih f' d (lpI K T O zs f' (d + 1) (i + 1)).2 (by omega) (by omega)]
      · rfl
def ofT (K T : Int → Int) (O : Int → Bool) (zs : List Int) (d i : Nat) : F × Nat := lpI K T O zs (zs.length - i) d i
theorem ofT_le (K T : Int → Int) (O : Int → Bool) (zs : List Int) (d i : Nat) : i ≤ (ofT K T O zs d i).2 := lpI_le K T O zs _ d i
theorem ofT_step (K T : Int → Int) (O : Int → Bool) (zs : List Int) {d i : Nat} (hd : d < 6) (hi : i < zs.length) (ho : O (zs.getD i 0) = true) :
    ofT K T O zs d i = (.cons (K (zs.getD i 0)) (T (zs.getD i 0)) (ofT K T O zs (d + 1) (i + 1)).1 (ofT K T O zs d (ofT K T O zs (d + 1) (i + 1)).2).1, (ofT K T O zs d (ofT K T O zs (d + 1) (i + 1)).2).2) := by
  unfold ofT
  obtain ⟨m, hm⟩ : ∃ m, zs.length - i = m + 1 := ⟨zs.length - i - 1, by omega⟩
  rw [hm]
  have e1 : zs.length - (i + 1) = m := by omega
  rw [e1]
  have h1 := lpI_le K T O zs m (d + 1) (i + 1)
  rw [lpI, if_pos ⟨hd, hi, ho⟩, lpI_fuel K T O zs (zs.length - (lpI K T O zs m (d + 1) (i + 1)).2) m d _ (Nat.le_refl _) (by omega)]
theorem ofT_stop (K T : Int → Int) (O : Int → Bool) (zs : List Int) {d i : Nat} (h : ¬ (d < 6 ∧ i < zs.length ∧ O (zs.getD i 0) = true)) : ofT K T O zs d i = (.nil, i) := by
  unfold ofT
  cases zs.length - i with
  | zero => rfl
  | succ m => rw [lpI, if_neg h]
/-- No greater than what it was made of. -/
theorem lpI_size (K T : Int → Int) (O : Int → Bool) (zs : List Int) : ∀ (f d i : Nat), (lpI K T O zs f d i).1.size + i ≤ (lpI K T O zs f d i).2
  | 0, _, _ => by simp [lpI, F.size]
  | f + 1, d, i => by
    unfold lpI
    split
    · have h1 := lpI_size K T O zs f (d + 1) (i + 1)
      have h2 := lpI_size K T O zs f d (lpI K T O zs f (d + 1) (i + 1)).2
      simp only [F.size]
      omega
    · simp [F.size]
theorem lpI_max (K T : Int → Int) (O : Int → Bool) (zs : List Int) : ∀ (f d i : Nat), (lpI K T O zs f d i).2 ≤ max i zs.length
  | 0, _, _ => Nat.le_max_left _ _
  | f + 1, d, i => by
    unfold lpI
    split
    · have h1 := lpI_max K T O zs f (d + 1) (i + 1)
      have h2 := lpI_max K T O zs f d (lpI K T O zs f (d + 1) (i + 1)).2
      dsimp only
      omega
    · exact Nat.le_max_left _ _
theorem ofT_size (K T : Int → Int) (O : Int → Bool) (zs : List Int) (d i : Nat) : (ofT K T O zs d i).1.size + i ≤ (ofT K T O zs d i).2 := lpI_size K T O zs _ d i
theorem ofT_max (K T : Int → Int) (O : Int → Bool) (zs : List Int) (d i : Nat) : (ofT K T O zs d i).2 ≤ max i zs.length := lpI_max K T O zs _ d i
end Go.Proofs.YthnapcdanccohaaDoor

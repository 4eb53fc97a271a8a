/-
  The kinds of a tree that was made of numbers.
-/
import Derived.Test.YthnapcdanccohaaDoorNdArg
import Derived.Test.YthnapcdanccohaaDoorNdLw
namespace Go.Proofs.YthnapcdanccohaaDoor
open Go.RowKit Go.Lib Go.Sort
theorem and31_rng (z : Int) : 0 ≤ bits .and .i64 z 31 ∧ bits .and .i64 z 31 ≤ 31 := by
  unfold bits
  simp only [BitVec.toNat_and]
  have h2 : (BitVec.ofInt IntKind.i64.bits 31).toNat = 31 := by decide
  rw [h2]
  have h := @Nat.and_le_right (BitVec.ofInt IntKind.i64.bits z).toNat 31
  generalize (BitVec.ofInt IntKind.i64.bits z).toNat &&& 31 = m at *
  rw [IntKind.wrap_i64]
  omega
theorem and7_rng (z : Int) : 0 ≤ bits .and .i64 z 7 ∧ bits .and .i64 z 7 ≤ 7 := by
  unfold bits
  simp only [BitVec.toNat_and]
  have h2 : (BitVec.ofInt IntKind.i64.bits 7).toNat = 7 := by decide
  rw [h2]
  have h := @Nat.and_le_right (BitVec.ofInt IntKind.i64.bits z).toNat 7
  generalize (BitVec.ofInt IntKind.i64.bits z).toNat &&& 7 = m at *
  rw [IntKind.wrap_i64]
  omega
theorem kdO_rng (z : Int) : 0 ≤ kdO z ∧ kdO z ≤ 28 := by
  have h := and31_rng z
  unfold kdO wrap64
  generalize bits .and .i64 z 31 = m at *
  rw [Int.tmod_eq_emod_of_nonneg h.1]
  omega
theorem tkO_rng (z : Int) : 0 ≤ tkO z ∧ tkO z ≤ 7 := and7_rng _
/-- The kinds and tokens are small. -/
def KOk : F → Prop
  | .nil => True
  | .cons k t c r => (0 ≤ k ∧ k ≤ 28) ∧ (0 ≤ t ∧ t ≤ 7) ∧ KOk c ∧ KOk r
theorem lpI_ok (O : Int → Bool) (zs : List Int) : ∀ (f d i : Nat), KOk (lpI kdO tkO O zs f d i).1
  | 0, _, _ => trivial
  | f + 1, d, i => by
    unfold lpI
    split
    · exact ⟨kdO_rng _, tkO_rng _, lpI_ok O zs f _ _, lpI_ok O zs f _ _⟩
    · trivial
theorem treeN_ok (zs : List Int) : (0 ≤ (treeN zs).k ∧ (treeN zs).k ≤ 28) ∧ (0 ≤ (treeN zs).t ∧ (treeN zs).t ≤ 7) ∧ KOk (treeN zs).c := by
  unfold treeN
  split
  · exact ⟨⟨Int.le_refl _, by decide⟩, ⟨Int.le_refl _, by decide⟩, trivial⟩
  · exact ⟨kdO_rng _, tkO_rng _, lpI_ok _ _ _ _ _⟩
theorem vl_all : ∀ {f : F}, KOk f → vl (fun k => k != -1) f = vl allA f
  | .nil, _ => rfl
  | .cons k t c r, ⟨h, _, h1, h2⟩ => by
    have e : (k != -1) = true := by simp; omega
    simp only [vl, e, vl_all h1, vl_all h2, if_true, allA]
theorem vlN_all (zs : List Int) : vlN (fun k => k != -1) (treeN zs) = vlN allA (treeN zs) := by
  obtain ⟨h, _, h1⟩ := treeN_ok zs
  have e : ((treeN zs).k != -1) = true := by simp; omega
  simp only [vlN, e, vl_all h1, if_true, allA]
/-- Of a list's places the number that were found. -/
theorem filter_at {α : Type} (p : α → Bool) : ∀ (L : List α) (i : Nat) (x : α), L[i]? = some x → p x = true → (L.filter p)[((L.take i).filter p).length]? = some x
  | [], _, _, h, _ => by simp at h
  | y :: L, 0, x, h, hp => by
    simp at h
    subst h
    simp [hp]
  | y :: L, i + 1, x, h, hp => by
    have ih := filter_at p L i x (by simpa using h) hp
    rw [List.take_succ_cons, List.filter_cons, List.filter_cons]
    split
    · simpa using ih
    · exact ih
theorem filter_snoc {α : Type} (p : α → Bool) (L : List α) (i : Nat) (x : α) (h : L[i]? = some x) : ((L.take (i + 1)).filter p).length = ((L.take i).filter p).length + if p x then 1 else 0 := by
  rw [List.take_add_one, h, List.filter_append, List.length_append]
  congr 1
  by_cases hp : p x = true <;> simp [hp]
theorem ofL_drop : ∀ (L : List Nd) (i : Nat) {k t : Int} {c : F} {r : F}, (F.ofL L).drop i = .cons k t c r → L[i]? = some ⟨k, t, c⟩
  | [], 0, _, _, _, _, h => by cases h
  | [], _ + 1, _, _, _, _, h => by cases h
  | x :: L, 0, k, t, c, r, h => by
    simp only [F.ofL, F.drop, F.cons.injEq] at h
    obtain ⟨h1, h2, h3, _⟩ := h
    cases x
    simp_all
  | x :: L, i + 1, _, _, _, _, h => by
    have := ofL_drop L i h
    simpa using this
end Go.Proofs.YthnapcdanccohaaDoor

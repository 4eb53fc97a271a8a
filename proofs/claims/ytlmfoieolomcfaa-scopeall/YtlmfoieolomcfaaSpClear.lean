/-
  Scopes: entries cut off and cleared.
-/
import Derived.Test.YtlmfoieolomcfaaSpUnc
import Derived.Laws.CopyRow
namespace Go.Proofs.Ytlmfoieolomcfaa
open Go.RowKit Go.Maps Go.Lib Go.WideMaps
set_option linter.unusedSimpArgs false
set_option linter.unusedVariables false
/-- The first k of a row. -/
theorem ownsRow_take {w : World} {B : Nat} {e : TypeId} {sz : Nat} {a : Option Addr} {n c : Nat} {xs : List Value} (h : w.ownsRow B e sz (.slice a n c) n xs) (k : Nat) (hk : k ≤ n) : w.ownsRow B e sz (.slice a k c) k (xs.take (k * sz)) := by
  have hm : k * sz ≤ n * sz := Nat.mul_le_mul_right sz hk
  refine ⟨by rw [List.length_take, h.1]; omega, ?_⟩
  rcases h.2 with ⟨h1, h2⟩ | ⟨g, cap, cur, h1, h2, h3, h4, h5, h6, h7⟩
  · injection h1 with e1 e2 e3
    subst e1 e3
    left
    have : k = 0 := by omega
    subst this
    exact ⟨rfl, rfl⟩
  · injection h1 with e1 e2 e3
    subst e1 e3
    refine .inr ⟨g, c, cur, rfl, h2, h3, by omega, h5, h6, ?_⟩
    rw [← h7, List.take_take, Nat.min_eq_left hm]
theorem ownEn_take {w : World} {B : Nat} {a : Option Addr} {c : Nat} {es : List En} (h : OwnEn w B (.slice a es.length c) es) (k : Nat) (hk : k ≤ es.length) : OwnEn w B (.slice a k c) (es.take k) := by
  unfold OwnEn
  rw [List.length_take, Nat.min_eq_left hk, ensC_take]
  exact ownsRow_take h k hk
theorem ownB_drop {w : World} {B : Nat} {a : Option Addr} {c : Nat} {bs : List Nat} {b : Nat} (h : OwnB w B (.slice a (bs.length + 1) c) (bs ++ [b])) : OwnB w B (.slice a bs.length c) bs := by
  unfold OwnB at h ⊢
  rw [List.length_append] at h
  have h1 := ownsRow_take h bs.length (by simp)
  rw [begC_snoc, List.take_append_of_le_length (by simp [begC]), List.take_of_length_le (by simp [begC])] at h1
  exact h1
theorem World_grown_setRow (w : World) (g : Nat) (cs : Array Value) : w.grownBy (w.setRow g cs) (some g) :=
  ⟨rfl, rfl, rfl, by simp [World.setRow], fun k _ hk => by
    unfold World.setRow
    simp only [Array.getElem?_modify]
    rw [if_neg (fun e => hk (by rw [e]))]⟩
theorem clear_none (w : World) (a : Option Addr) (c : Nat) (ty : TypeId) : (Builtin.clear_ #[45] ty #[.slice a 0 c]).run Try.prog w = .ok (.tuple #[]) w := by
  cases a <;> simp [Builtin.clear_, run_underlying Try.underlying45]
def enZ : En := ⟨⟨#[]⟩, 0, 0, 0, 0⟩
theorem zero_ens (n : Nat) : (Builtin.zeroCells (Value.agg #[.string ⟨#[]⟩, .int .i64 0, .int .i64 0, .int .i64 0, .int .i64 0]).cells n).toList = ensC (List.replicate n enZ) := by
  apply List.ext_getElem?
  intro t
  have hl := ensC_len (List.replicate n enZ)
  rw [List.length_replicate] at hl
  have hz : (Value.agg #[.string ⟨#[]⟩, .int .i64 0, .int .i64 0, .int .i64 0, .int .i64 0]).cells = #[.string ⟨#[]⟩, .int .i64 0, .int .i64 0, .int .i64 0, .int .i64 0] := rfl
  rw [hz]
  by_cases ht : t < n * 5
  · obtain ⟨q, r, rfl, hr⟩ : ∃ q r, t = q * 5 + r ∧ r < 5 := ⟨t / 5, t % 5, by omega, by omega⟩
    rw [ensC_at _ q r hr, List.getElem?_replicate, if_pos (by omega)]
    unfold Builtin.zeroCells
    rw [Array.getElem?_toList, Array.getElem?_map, Array.getElem?_range]
    rw [if_pos (by simpa using ht)]
    match r, hr with
    | 0, _ => simp [En.cells, enZ, show (q * 5 + 0) % 5 = 0 by omega]
    | 1, _ => simp [En.cells, enZ, show (q * 5 + 1) % 5 = 1 by omega]
    | 2, _ => simp [En.cells, enZ, show (q * 5 + 2) % 5 = 2 by omega]
    | 3, _ => simp [En.cells, enZ, show (q * 5 + 3) % 5 = 3 by omega]
    | 4, _ => simp [En.cells, enZ, show (q * 5 + 4) % 5 = 4 by omega]
  · rw [List.getElem?_eq_none (by simp [Builtin.zeroCells]; omega), List.getElem?_eq_none (by omega)]
theorem zeroV (w : World) : (zeroValue 50).run Try.prog w = .ok (.agg #[.string ⟨#[]⟩, .int .i64 0, .int .i64 0, .int .i64 0, .int .i64 0]) w := by
  obtain ⟨i0, hi, hz0, hz1, hz2⟩ := info_parts Try.info50
  simp [zeroValue, typeInfo, hi, hz0]
/-- clear of what stands from k on: the first k stay. -/
theorem ownEn_clear {w : World} {B : Nat} {z c : Nat} {es : List En} (h : OwnEn w B (.slice (some ⟨z, 0, none⟩) es.length c) es) (k : Nat) (hk : k < es.length) (ty : TypeId) (c2 : Nat) :
    ∃ w', (Builtin.clear_ #[45] ty #[.slice (some ⟨z, k * 5, none⟩) (es.length - k) c2]).run Try.prog w = .ok (.tuple #[]) w' ∧ OwnEn w' B (.slice (some ⟨z, 0, none⟩) k c) (es.take k) ∧ w.grownBy w' (some z) := by
  have ht := ownEn_take h k (by omega)
  rcases h.2 with ⟨h1, h2⟩ | ⟨g, cap, cur, h1, h2, h3, h4, h5, h6, h7⟩
  · cases h1
  · injection h1 with e1 e2 e3
    injection e1 with e1
    injection e1 with e1
    subst e1 e3
    have hl := ensC_len (List.replicate (es.length - k) enZ)
    rw [List.length_replicate] at hl
    have hrun := run_storeCells_at Try.prog z (k * 5) 50 (ensC (List.replicate (es.length - k) enZ)) 0 cur w h3 (by rw [hl, h6]; omega) (fun v hv => by
      unfold ensC at hv
      obtain ⟨e, _, he⟩ := List.mem_flatMap.1 hv
      exact one_en e v he)
    obtain ⟨cs, hcs⟩ : ∃ cs, cs = (cur.toList.take (k * 5 + 0) ++ ensC (List.replicate (es.length - k) enZ) ++ cur.toList.drop (k * 5 + 0 + (ensC (List.replicate (es.length - k) enZ)).length)).toArray := ⟨_, rfl⟩
    rw [← hcs] at hrun
    refine ⟨w.setRow z cs, ?_, ⟨ht.1, .inr ⟨z, c, cs, ?_, h2, setRow_heap w z cur cs 50 _ h3, ?_, h5, ?_, ?_⟩⟩, World_grown_setRow _ _ _⟩
    · obtain ⟨m, hm⟩ : ∃ m, es.length - k = m + 1 := ⟨es.length - k - 1, by omega⟩
      rw [hm] at hrun ⊢
      simp [Builtin.clear_, run_underlying Try.underlying45, zeroV, zero_ens, hrun]
    · rw [List.length_take, Nat.min_eq_left (by omega)]
    · rw [List.length_take]; omega
    · rw [hcs]; simp [hl, h6]; omega
    · rw [hcs]
      have hk5 : k * 5 ≤ cur.toList.length := by rw [Array.length_toList, h6]; omega
      rw [List.length_take, Nat.min_eq_left (by omega), ensC_take, ← h7, List.take_take, Nat.min_eq_left (by omega), List.append_assoc, List.take_append_of_le_length (by rw [List.length_take]; omega), List.take_take]
      congr 1
      omega
end Go.Proofs.Ytlmfoieolomcfaa

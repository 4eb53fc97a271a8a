/-
  A row of edits: many are stored, copied, cleared.
-/
import Derived.Test.YtpjpghigilbfaaaEdRow
import Derived.Laws.CopyRow
namespace Go.Proofs.Ytpjpghigilbfaaa
open Go.RowKit
set_option linter.unusedSimpArgs false
set_option linter.unusedVariables false
theorem edsC_append (L M : List Ed) : edsC (L ++ M) = edsC L ++ edsC M := by simp [edsC]
theorem edsC_take (L : List Ed) (k : Nat) (h : k ≤ L.length) : edsC (L.take k) = (edsC L).take (k * 3) := by
  conv => rhs; rw [← List.take_append_drop k L, edsC_append]
  rw [List.take_left' (by rw [edsC_len, List.length_take]; omega)]
theorem edsC_drop (L : List Ed) (k : Nat) (h : k ≤ L.length) : edsC (L.drop k) = (edsC L).drop (k * 3) := by
  conv => rhs; rw [← List.take_append_drop k L, edsC_append]
  rw [List.drop_left' (by rw [edsC_len, List.length_take]; omega)]
theorem grown_setRow (w : World) (g : Nat) (cs : Array Value) : w.grownBy (w.setRow g cs) (some g) :=
  ⟨rfl, rfl, rfl, by simp [World.setRow], fun k _ hk => by
    unfold World.setRow
    simp only [Array.getElem?_modify]
    rw [if_neg (fun e => hk (by rw [e]))]⟩
theorem one_eds (M : List Ed) : ∀ u ∈ edsC M, u.oneCell' = true := by
  intro u hu
  obtain ⟨d, _, hd⟩ := List.mem_flatMap.1 hu
  exact one_ed d u hd
theorem RowE.stores {w : World} {g cap : Nat} {L : List Ed} (h : RowE w g cap L) (k : Nat) (M : List Ed) (hk : k + M.length ≤ L.length) :
    ∃ w', (storeCells ⟨g, k * 3, none⟩ (edsC M) 0).run Try.prog w = .ok () w' ∧ RowE w' g cap (L.take k ++ M ++ L.drop (k + M.length)) ∧ w.grownBy w' (some g) := by
  obtain ⟨cur, hg, h1, h2, h3, h4⟩ := h
  have hl := edsC_len M
  refine ⟨_, run_storeCells_at Try.prog g (k * 3) 29 (edsC M) 0 cur w hg (by rw [hl, h1]; omega) (one_eds M), ?_, grown_setRow _ _ _⟩
  have hlen : (L.take k ++ M ++ L.drop (k + M.length)).length = L.length := by simp; omega
  refine ⟨_, setRow_heap w g cur _ 29 _ hg, ?_, by omega, h3, ?_⟩
  · simp [hl, h1]; omega
  · rw [hlen, edsC_append, edsC_append, edsC_take _ _ (by omega), edsC_drop _ _ (by omega), ← h4]
    simp only [Nat.add_zero]
    apply List.ext_getElem?
    intro t
    have m1 : min (k * 3) (cap * 3) = k * 3 := by omega
    have m2 : min (k * 3) (min (L.length * 3) (cap * 3)) = k * 3 := by omega
    simp only [List.getElem?_take, List.getElem?_append, List.length_append, List.length_take, Array.length_toList, hl, h1, List.getElem?_drop, m1, m2]
    by_cases ht : t < L.length * 3
    · by_cases c1 : t < k * 3 + M.length * 3
      · by_cases c2 : t < k * 3
        · simp only [ht, c1, c2, if_true]
        · simp only [ht, c1, c2, if_true, if_false]
      · simp only [ht, c1, if_true, if_false]
        rw [if_pos (by omega)]
        congr 1
        omega
    · have c1 : ¬ t < k * 3 + M.length * 3 := by omega
      simp only [ht, c1, if_false]
      rw [if_neg (by omega)]
theorem zero_eds (n : Nat) : (Builtin.zeroCells (Value.agg #[.int .i64 0, .int .i64 0, .string ⟨#[]⟩]).cells n).toList = edsC (List.replicate n ed0) := by
  apply List.ext_getElem?
  intro t
  have hl := edsC_len (List.replicate n ed0)
  rw [List.length_replicate] at hl
  have hz : (Value.agg #[.int .i64 0, .int .i64 0, .string ⟨#[]⟩]).cells = #[.int .i64 0, .int .i64 0, .string ⟨#[]⟩] := rfl
  rw [hz]
  by_cases ht : t < n * 3
  · obtain ⟨q, r, rfl, hr⟩ : ∃ q r, t = q * 3 + r ∧ r < 3 := ⟨t / 3, t % 3, by omega, by omega⟩
    rw [edsC_at _ q r hr, List.getElem?_replicate, if_pos (by omega)]
    unfold Builtin.zeroCells
    rw [Array.getElem?_toList, Array.getElem?_map, Array.getElem?_range]
    rw [if_pos (by simpa using ht)]
    match r, hr with
    | 0, _ => simp [Ed.cells, ed0, show (q * 3 + 0) % 3 = 0 by omega]
    | 1, _ => simp [Ed.cells, ed0, show (q * 3 + 1) % 3 = 1 by omega]
    | 2, _ => simp [Ed.cells, ed0, show (q * 3 + 2) % 3 = 2 by omega]
  · rw [List.getElem?_eq_none (by simp [Builtin.zeroCells]; omega), List.getElem?_eq_none (by omega)]
/-- clear of what stands from k on. -/
theorem RowE.clear {w : World} {g cap : Nat} {L : List Ed} (h : RowE w g cap L) (ty : TypeId) (k c : Nat) (hk : k < L.length) :
    ∃ w', (Builtin.clear_ #[22] ty #[.slice (some ⟨g, k * 3, none⟩) (L.length - k) c]).run Try.prog w = .ok (.tuple #[]) w' ∧ RowE w' g cap (L.take k ++ List.replicate (L.length - k) ed0) ∧ w.grownBy w' (some g) := by
  obtain ⟨w', h1, h2, h3⟩ := h.stores k (List.replicate (L.length - k) ed0) (by simp; omega)
  refine ⟨w', ?_, ?_, h3⟩
  · obtain ⟨m, hm⟩ : ∃ m, L.length - k = m + 1 := ⟨L.length - k - 1, by omega⟩
    rw [hm] at h1 ⊢
    have hv : ∀ w, (zeroValue 29).run Try.prog w = .ok (.agg #[.int .i64 0, .int .i64 0, .string ⟨#[]⟩]) w := by
      intro w
      obtain ⟨i0, hi, hz0, hz1, hz2⟩ := info_parts Try.info29
      simp [zeroValue, typeInfo, hi, hz0]
    simp [Builtin.clear_, run_underlying Try.underlying22, hv, zero_eds, h1]
  · have : L.drop (k + (List.replicate (L.length - k) ed0).length) = [] := by
      apply List.drop_eq_nil_of_le
      simp; omega
    rw [this, List.append_nil] at h2
    exact h2
/-- copy(out[k+1:], out[k:]). -/
theorem RowE.copy {w : World} {g cap : Nat} {L : List Ed} {e : Ed} (h : RowE w g cap (L ++ [e])) (ty : TypeId) (k c1 c2 : Nat) (hk : k < L.length) :
    ∃ w', (Builtin.copy_ #[22, 22] ty #[.slice (some ⟨g, (k + 1) * 3, none⟩) (L.length - k) c1, .slice (some ⟨g, k * 3, none⟩) (L.length + 1 - k) c2]).run Try.prog w = .ok (goInt ((L.length - k : Nat) : Int)) w' ∧
      RowE w' g cap ((L ++ [e]).take (k + 1) ++ L.drop k) ∧ w.grownBy w' (some g) := by
  have hM : (L.drop k).length = L.length - k := by simp
  obtain ⟨w', h1, h2, h3⟩ := h.stores (k + 1) (L.drop k) (by simp; omega)
  refine ⟨w', ?_, ?_, h3⟩
  · have hl : (loadCells ⟨g, k * 3, none⟩ ((L.length - k) * 3)).run Try.prog w = .ok (edsC (L.drop k)).toArray w := by
      have := run_loadCells_list (P := Try.prog) w ⟨g, k * 3, none⟩ (edsC (L.drop k)) (fun j v hj => by
        have hj' : j < (edsC (L.drop k)).length := (List.getElem?_eq_some_iff.1 hj).1
        rw [edsC_len, hM] at hj'
        rw [show Addr.add ⟨g, k * 3, none⟩ j = ⟨g, k * 3 + j, none⟩ by simp [Addr.add], h.cell _ (by simp; omega), edsC_append, List.getElem?_append_left (by rw [edsC_len]; omega), ← hj, edsC_drop _ _ (by omega), List.getElem?_drop])
      rw [edsC_len, hM] at this
      exact this
    obtain ⟨i0, hi, hz0, hz1, hz2⟩ := info_parts Try.info29
    have hmin : Nat.min (L.length + 1 - k) (L.length - k) = L.length - k := by
      show min _ _ = _
      omega
    simp [Builtin.copy_, run_underlying Try.underlying22, Builtin.lenOf, Builtin.firstCells, sizeOf, typeInfo, hi, hz1, hmin, hl, h1]
  · have : (L ++ [e]).drop (k + 1 + (L.drop k).length) = [] := by
      apply List.drop_eq_nil_of_le
      simp; omega
    rw [this, List.append_nil] at h2
    exact h2
/-- .. of nothing. -/
theorem copy_none (w : World) (a b : Option Addr) (ty : TypeId) (c1 n c2 : Nat) :
    (Builtin.copy_ #[22, 22] ty #[.slice a 0 c1, .slice b n c2]).run Try.prog w = .ok (goInt 0) w := by
  obtain ⟨i0, hi, hz0, hz1, hz2⟩ := info_parts Try.info29
  cases a <;> cases b <;> simp [Builtin.copy_, run_underlying Try.underlying22, Builtin.lenOf, Builtin.firstCells, sizeOf, typeInfo, hi, hz1, storeCells, loadCells, loadCellsFrom]
end Go.Proofs.Ytpjpghigilbfaaa

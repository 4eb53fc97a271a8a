/-
  Scopes: a name that each scope has or has not, from the outermost one on (no program but its answers' shape).
-/
import Derived.Test.YtlmfoieolomcfaaSpLaw
namespace Go.Proofs.Ytlmfoieolomcfaa
open Go.RowKit Go.Maps Go.Lib Go.WideMaps
set_option linter.unusedSimpArgs false
set_option linter.unusedVariables false
def nx : ByteArray := ⟨#[120]⟩
section
variable (ow : Nat → Bool)
def dE : Nat → List En
  | 0 => []
  | i + 1 => if ow i then dE i ++ [⟨nx, i, 0, 0, plc nx (dE i)⟩] else dE i
def dB : Nat → List Nat
  | 0 => []
  | i + 1 => dB i ++ [(dE ow (i + 1)).length]
def dI : Nat → List Int
  | 0 => []
  | i + 1 => if ow i then dI i ++ [(i : Int)] else dI i
theorem dI_len : ∀ i, (dI ow i).length = (dE ow i).length
  | 0 => rfl
  | i + 1 => by
    unfold dI dE
    cases ow i <;> simp [dI_len i]
theorem dI_le : ∀ i, (dI ow i).length ≤ i
  | 0 => Nat.le_refl _
  | i + 1 => by
    have := dI_le i
    unfold dI
    cases ow i <;> simp <;> omega
theorem dB_len : ∀ i, (dB ow i).length = i
  | 0 => rfl
  | i + 1 => by simp [dB, dB_len i]
theorem beg_dB : ∀ i, beg (dB ow i) = (dE ow i).length
  | 0 => rfl
  | i + 1 => by rw [dB, beg_snoc]
theorem dE_plc : ∀ i, plc nx (dE ow i) = ((dE ow i).length : Int) - 1
  | 0 => rfl
  | i + 1 => by
    unfold dE
    cases ow i with
    | false => simp [dE_plc i]
    | true =>
      simp only [if_true]
      rw [plc_snoc, if_pos rfl]
      simp
theorem dE_f : ∀ i, (dE ow i).map (·.f) = dI ow i
  | 0 => rfl
  | i + 1 => by
    unfold dE dI
    cases ow i <;> simp [dE_f i]
theorem dE_tk : ∀ i, ∀ e ∈ dE ow i, e.t = 0 ∧ e.k = 0
  | 0 => fun e he => by cases he
  | i + 1 => fun e he => by
    unfold dE at he
    cases h : ow i with
    | false => rw [h] at he; exact dE_tk i e (by simpa using he)
    | true =>
      rw [h] at he
      simp only [if_true] at he
      rcases List.mem_append.1 he with h1 | h1
      · exact dE_tk i e h1
      · simp at h1; subst h1; exact ⟨rfl, rfl⟩
theorem dE_take (i : Nat) : (dE ow (i + 1)).take (dE ow i).length = dE ow i := by
  show List.take (dE ow i).length (if ow i then dE ow i ++ [⟨nx, i, 0, 0, plc nx (dE ow i)⟩] else dE ow i) = dE ow i
  cases ow i with
  | false => simp only [Bool.false_eq_true, if_false]; exact List.take_of_length_le (Nat.le_refl _)
  | true => simp only [if_true]; rw [List.take_append_of_le_length (Nat.le_refl _), List.take_of_length_le (Nat.le_refl _)]
theorem dI_nn : ∀ i, ∀ x ∈ dI ow i, 0 ≤ x ∧ x < (i : Int)
  | 0 => fun x hx => by cases hx
  | i + 1 => fun x hx => by
    unfold dI at hx
    cases h : ow i with
    | false =>
      rw [h] at hx
      have := dI_nn i x (by simpa using hx)
      omega
    | true =>
      rw [h] at hx
      simp only [if_true] at hx
      rcases List.mem_append.1 hx with h1 | h1
      · have := dI_nn i x h1
        omega
      · simp at h1; omega
/-- The last one, or -1. -/
def lastI (L : List Int) : Int := L.getLast?.getD (-1)
theorem lastI_snoc (L : List Int) (x : Int) : lastI (L ++ [x]) = x := by simp [lastI]
theorem lastI_pos (i : Nat) : 0 ≤ lastI (dI ow i) ↔ dI ow i ≠ [] := by
  unfold lastI
  constructor
  · intro h e
    rw [e] at h
    simp at h
  · intro h
    rw [List.getLast?_eq_some_getLast h]
    exact (dI_nn ow i _ (List.getLast_mem h)).1
theorem dE_last (i : Nat) (h : dI ow i ≠ []) : ∃ e, (dE ow i)[(dE ow i).length - 1]? = some e ∧ e.f = lastI (dI ow i) ∧ e.t = 0 ∧ e.k = 0 := by
  have hl := dI_len ow i
  have h0 : 0 < (dE ow i).length := by rw [← hl]; exact List.length_pos_iff.2 h
  refine ⟨(dE ow i)[(dE ow i).length - 1], List.getElem?_eq_getElem (by omega), ?_, dE_tk ow i _ (List.getElem_mem _)⟩
  unfold lastI
  rw [List.getLast?_eq_getElem?, hl, ← dE_f ow i, List.getElem?_map, List.getElem?_eq_getElem (by omega)]
  rfl
theorem deep_find (i : Nat) : fndV (fnd nx (dE ow i) 0) = .tuple #[.agg #[.int .i64 (if 0 ≤ lastI (dI ow i) then lastI (dI ow i) else 0), .int .i64 0, .int .i64 0], .bool (decide (0 ≤ lastI (dI ow i)))] := by
  have hl := dI_len ow i
  unfold fnd
  rw [dE_plc]
  by_cases h : dI ow i = []
  · have h0 : (dE ow i).length = 0 := by rw [← hl, h]; rfl
    have h1 : ¬ 0 ≤ lastI (dI ow i) := fun h2 => (lastI_pos ow i).1 h2 h
    rw [if_neg (by omega), if_neg h1, decide_eq_false h1]
    rfl
  · have h0 : 0 < (dE ow i).length := by rw [← hl]; exact List.length_pos_iff.2 h
    obtain ⟨e, e1, e2, e3, e4⟩ := dE_last ow i h
    have h1 := (lastI_pos ow i).2 h
    rw [if_pos (by omega), if_pos h1, decide_eq_true h1, show (((dE ow i).length : Int) - 1).toNat = (dE ow i).length - 1 by omega, e1]
    simp only [fndV, e2, e3, e4]
theorem deep_here (i : Nat) : fndV (fnd nx (dE ow (i + 1)) (beg (dB ow i))) = .tuple #[.agg #[.int .i64 (if ow i then (i : Int) else 0), .int .i64 0, .int .i64 0], .bool (ow i)] := by
  unfold fnd
  rw [dE_plc, beg_dB]
  cases h : ow i with
  | false =>
    have : dE ow (i + 1) = dE ow i := by conv => lhs; unfold dE; rw [h]; simp
    rw [this, if_neg (by omega)]
    rfl
  | true =>
    have : dE ow (i + 1) = dE ow i ++ [⟨nx, i, 0, 0, plc nx (dE ow i)⟩] := by conv => lhs; unfold dE; rw [h]; simp
    rw [this, if_pos (by simp)]
    simp only [List.length_append, List.length_cons, List.length_nil, Nat.zero_add]
    rw [show (((dE ow i).length + 1 : Nat) : Int) - 1 = (dE ow i).length by omega, Int.toNat_natCast, List.getElem?_append_right (Nat.le_refl _)]
    simp [fndV]
theorem last_here (i : Nat) : (lastI (dI ow (i + 1)) == (i : Int)) = ow i := by
  cases h : ow i with
  | false =>
    have : dI ow (i + 1) = dI ow i := by conv => lhs; unfold dI; rw [h]; simp
    rw [this]
    have h1 : lastI (dI ow i) < (i : Int) := by
      unfold lastI
      by_cases h2 : dI ow i = []
      · rw [h2]; simp; omega
      · rw [List.getLast?_eq_some_getLast h2]
        exact (dI_nn ow i _ (List.getLast_mem h2)).2
    simp only [beq_eq_false_iff_ne, ne_eq]
    omega
  | true =>
    have : dI ow (i + 1) = dI ow i ++ [(i : Int)] := by conv => lhs; unfold dI; rw [h]; simp
    rw [this, lastI_snoc]
    simp
end
/-- Of the first j numbers the last one that is at most i. -/
def kR (L : List Int) (i : Int) : Nat → Int
  | 0 => -1
  | j + 1 => if L.getD j 0 ≤ i then L.getD j 0 else kR L i j
theorem kR_pre (L : List Int) (x i : Int) : ∀ j, j ≤ L.length → kR (L ++ [x]) i j = kR L i j
  | 0, _ => rfl
  | j + 1, h => by
    have e : (L ++ [x]).getD j 0 = L.getD j 0 := by simp [List.getD, List.getElem?_append_left (show j < L.length by omega)]
    unfold kR
    rw [e, kR_pre L x i j (by omega)]
theorem kR_snoc (L : List Int) (x i : Int) : kR (L ++ [x]) i (L.length + 1) = if x ≤ i then x else kR L i L.length := by
  have e : (L ++ [x]).getD L.length 0 = x := by simp [List.getD]
  show (if (L ++ [x]).getD L.length 0 ≤ i then (L ++ [x]).getD L.length 0 else kR (L ++ [x]) i L.length) = _
  rw [e, kR_pre L x i _ (Nat.le_refl _)]
theorem kR_all (ow : Nat → Bool) (i : Nat) : ∀ m, kR (dI ow m) i (dI ow m).length = lastI (dI ow (min m (i + 1)))
  | 0 => by simp [dI, kR, lastI]
  | m + 1 => by
    have ih := kR_all ow i m
    cases h : ow m with
    | false =>
      have e : dI ow (m + 1) = dI ow m := by conv => lhs; unfold dI; rw [h]; simp
      rw [e, ih]
      by_cases hm : m < i + 1
      · rw [Nat.min_eq_left (by omega), Nat.min_eq_left (by omega), e]
      · rw [Nat.min_eq_right (by omega), Nat.min_eq_right (by omega)]
    | true =>
      have e : dI ow (m + 1) = dI ow m ++ [(m : Int)] := by conv => lhs; unfold dI; rw [h]; simp
      rw [e, List.length_append, List.length_cons, List.length_nil, kR_snoc]
      by_cases hm : m < i + 1
      · rw [if_pos (by omega), Nat.min_eq_left (by omega), e, lastI_snoc]
      · rw [if_neg (by omega), ih, Nat.min_eq_right (by omega), Nat.min_eq_right (by omega)]
end Go.Proofs.Ytlmfoieolomcfaa

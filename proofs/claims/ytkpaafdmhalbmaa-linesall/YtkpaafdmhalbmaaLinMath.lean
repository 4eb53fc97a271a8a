/-
  Where lines begin, told byte by byte. No program.
-/
import Derived.Test.YtkpaafdmhalbmaaByte
import Derived.Lib.LastIndexByte
namespace Go.Proofs.Ytkpaafdmhalbmaa
/-- Where the lines of the first k bytes, and of what comes right behind them, begin. -/
def stK (s : ByteArray) : Nat → List Int
  | 0 => [0]
  | k + 1 => if byteAt s k = 10 then stK s k ++ [(k : Int) + 1] else stK s k
/-- Where the line of byte k begins. -/
def lsK (s : ByteArray) : Nat → Nat
  | 0 => 0
  | k + 1 => if byteAt s k = 10 then k + 1 else lsK s k
def lnK (s : ByteArray) (k : Nat) : Nat := (stK s k).length
theorem stK_nl {s : ByteArray} {k : Nat} (h : byteAt s k = 10) : stK s (k + 1) = stK s k ++ [(k : Int) + 1] := by rw [stK, if_pos h]
theorem stK_no {s : ByteArray} {k : Nat} (h : ¬ byteAt s k = 10) : stK s (k + 1) = stK s k := by rw [stK, if_neg h]
theorem lnK_nl {s : ByteArray} {k : Nat} (h : byteAt s k = 10) : lnK s (k + 1) = lnK s k + 1 := by rw [lnK, stK_nl h]; simp [lnK]
theorem lnK_no {s : ByteArray} {k : Nat} (h : ¬ byteAt s k = 10) : lnK s (k + 1) = lnK s k := by rw [lnK, stK_no h]; rfl
theorem lsK_nl {s : ByteArray} {k : Nat} (h : byteAt s k = 10) : lsK s (k + 1) = k + 1 := by rw [lsK, if_pos h]
theorem lsK_no {s : ByteArray} {k : Nat} (h : ¬ byteAt s k = 10) : lsK s (k + 1) = lsK s k := by rw [lsK, if_neg h]
theorem lnK_pos (s : ByteArray) : ∀ k, 1 ≤ lnK s k
  | 0 => by simp [lnK, stK]
  | k + 1 => by
    have := lnK_pos s k
    by_cases h : byteAt s k = 10
    · rw [lnK_nl h]; omega
    · rw [lnK_no h]; omega
theorem lnK_le (s : ByteArray) : ∀ k, lnK s k ≤ k + 1
  | 0 => by simp [lnK, stK]
  | k + 1 => by
    have := lnK_le s k
    by_cases h : byteAt s k = 10
    · rw [lnK_nl h]; omega
    · rw [lnK_no h]; omega
theorem lsK_le (s : ByteArray) : ∀ k, lsK s k ≤ k
  | 0 => by simp [lsK]
  | k + 1 => by
    have := lsK_le s k
    by_cases h : byteAt s k = 10
    · rw [lsK_nl h]; omega
    · rw [lsK_no h]; omega
/-- What begins among the first k begins there too among more. -/
theorem stK_more (s : ByteArray) (k : Nat) : ∀ d, lnK s k ≤ lnK s (k + d) ∧ ∀ i, i < lnK s k → (stK s (k + d)).getD i 0 = (stK s k).getD i 0
  | 0 => ⟨Nat.le_refl _, fun _ _ => rfl⟩
  | d + 1 => by
    obtain ⟨h1, h2⟩ := stK_more s k d
    rw [show k + (d + 1) = (k + d) + 1 by omega]
    by_cases h : byteAt s (k + d) = 10
    · rw [lnK_nl h, stK_nl h]
      refine ⟨by omega, fun i hi => ?_⟩
      rw [← h2 i hi]
      have : i < (stK s (k + d)).length := Nat.lt_of_lt_of_le hi h1
      simp [List.getD, List.getElem?_append_left this]
    · rw [lnK_no h, stK_no h]
      exact ⟨h1, h2⟩
theorem lnK_mono (s : ByteArray) {k m : Nat} (h : k ≤ m) : lnK s k ≤ lnK s m := by
  have := (stK_more s k (m - k)).1
  rwa [show k + (m - k) = m by omega] at this
theorem stK_same (s : ByteArray) {k m i : Nat} (h : k ≤ m) (hi : i < lnK s k) : (stK s m).getD i 0 = (stK s k).getD i 0 := by
  have := (stK_more s k (m - k)).2 i hi
  rwa [show k + (m - k) = m by omega] at this
/-- The last one. -/
theorem stK_last (s : ByteArray) : ∀ k, (stK s k).getD (lnK s k - 1) 0 = lsK s k
  | 0 => rfl
  | k + 1 => by
    by_cases h : byteAt s k = 10
    · rw [lnK_nl h, stK_nl h, lsK_nl h]
      simp [lnK, List.getD]
    · rw [lnK_no h, stK_no h, lsK_no h]
      exact stK_last s k
theorem stK_bounds (s : ByteArray) : ∀ k i, i < lnK s k → 0 ≤ (stK s k).getD i 0 ∧ (stK s k).getD i 0 ≤ k
  | 0, i, hi => by
    obtain rfl : i = 0 := by simp [lnK, stK] at hi; exact hi
    simp [stK]
  | k + 1, i, hi => by
    by_cases h : byteAt s k = 10
    · rw [lnK_nl h] at hi
      by_cases hl : i < lnK s k
      · have := stK_bounds s k i hl
        rw [stK_same s (Nat.le_succ k) hl]; omega
      · obtain rfl : i = lnK s k := by omega
        rw [stK_nl h]
        simp [lnK, List.getD]; omega
    · rw [lnK_no h] at hi
      rw [stK_no h]
      have := stK_bounds s k i hi
      omega
/-- What begins later begins behind a newline that is not among the first k. -/
theorem stK_later (s : ByteArray) (k : Nat) : ∀ d i, lnK s k ≤ i → i < lnK s (k + d) → ∃ q : Nat, (stK s (k + d)).getD i 0 = q + 1 ∧ k ≤ q ∧ q < k + d ∧ byteAt s q = 10
  | 0, i, h1, h2 => by simp at h2; omega
  | d + 1, i, h1, h2 => by
    rw [show k + (d + 1) = (k + d) + 1 by omega] at h2 ⊢
    by_cases h : byteAt s (k + d) = 10
    · rw [lnK_nl h] at h2
      by_cases hl : i < lnK s (k + d)
      · obtain ⟨q, h3, h4, h5, h6⟩ := stK_later s k d i h1 hl
        exact ⟨q, by rw [stK_same s (Nat.le_succ _) hl, h3], h4, by omega, h6⟩
      · obtain rfl : i = lnK s (k + d) := by omega
        exact ⟨k + d, by rw [stK_nl h]; simp [lnK, List.getD], by omega, by omega, h⟩
    · rw [lnK_no h] at h2
      obtain ⟨q, h3, h4, h5, h6⟩ := stK_later s k d i h1 h2
      exact ⟨q, by rw [stK_no h, h3], h4, by omega, h6⟩
theorem stK_behind (s : ByteArray) {k m i : Nat} (h : k ≤ m) (h1 : lnK s k ≤ i) (h2 : i < lnK s m) : ∃ q : Nat, (stK s m).getD i 0 = q + 1 ∧ k ≤ q ∧ q < m ∧ byteAt s q = 10 := by
  have := stK_later s k (m - k) i h1
  rw [show k + (m - k) = m by omega] at this
  exact this h2
/-- Line i + 1 of m bytes: from where it begins to where it ends. -/
def frK (s : ByteArray) (i : Nat) : Int := (stK s s.size).getD i 0
def toK (s : ByteArray) (i : Nat) : Int := if i + 1 = lnK s s.size then s.size else (stK s s.size).getD (i + 1) 0 - 1
theorem frK_zero (s : ByteArray) : frK s 0 = 0 := stK_same s (Nat.zero_le s.size) (lnK_pos s 0)
theorem toK_last {s : ByteArray} {i : Nat} (h : i + 1 = lnK s s.size) : toK s i = s.size := by rw [toK, if_pos h]
theorem toK_nl {s : ByteArray} {i : Nat} (h : i + 1 < lnK s s.size) : toK s i = frK s (i + 1) - 1 := by rw [toK, if_neg (by omega)]; rfl
theorem frK_bounds (s : ByteArray) {i : Nat} (h : i < lnK s s.size) : 0 ≤ frK s i ∧ frK s i ≤ s.size := stK_bounds s s.size i h
/-- Behind a line that is not the last one stands a newline. -/
theorem toK_byte (s : ByteArray) {i : Nat} (h : i + 1 < lnK s s.size) : ∃ q : Nat, toK s i = q ∧ q < s.size ∧ byteAt s q = 10 := by
  obtain ⟨q, h1, _, h2, h3⟩ := stK_behind s (Nat.zero_le s.size) (show lnK s 0 ≤ i + 1 by simp [lnK, stK]) h
  refine ⟨q, ?_, h2, h3⟩
  rw [toK_nl h, frK, h1]; omega
/-- A byte between is of that line. -/
theorem line_of (s : ByteArray) {i x : Nat} (hi : i < lnK s s.size) (h1 : frK s i ≤ x) (h2 : (x : Int) ≤ toK s i) : lnK s x = i + 1 ∧ (lsK s x : Int) = frK s i ∧ x ≤ s.size := by
  have hx : x ≤ s.size := by
    by_cases h : i + 1 = lnK s s.size
    · rw [toK_last h] at h2; omega
    · obtain ⟨q, h3, h4, _⟩ := toK_byte s (i := i) (by omega)
      omega
  have hlt : i < lnK s x := by
    by_cases h : i < lnK s x
    · exact h
    · obtain ⟨q, h3, h4, _⟩ := stK_behind s hx (by omega) hi
      rw [frK, h3] at h1
      omega
  have hle : lnK s x ≤ i + 1 := by
    by_cases h : lnK s x ≤ i + 1
    · exact h
    · have hm := lnK_mono s hx
      have h3 := (stK_bounds s x (i + 1) (by omega)).2
      rw [toK_nl (by omega), frK, stK_same s hx (by omega)] at h2
      omega
  refine ⟨by omega, ?_, hx⟩
  rw [← stK_last s x, show lnK s x - 1 = i by omega, ← stK_same s hx hlt]; rfl
theorem frK_toK (s : ByteArray) {i : Nat} (hi : i < lnK s s.size) : frK s i ≤ toK s i ∧ toK s i ≤ s.size := by
  have hb := frK_bounds s hi
  by_cases h : i + 1 = lnK s s.size
  · rw [toK_last h]; omega
  · obtain ⟨q, h3, h4, h5⟩ := toK_byte s (i := i) (by omega)
    have hm : lnK s q ≤ i + 1 := by
      by_cases hq : lnK s q ≤ i + 1
      · exact hq
      · have h6 := (stK_bounds s q (i + 1) (by omega)).2
        rw [toK_nl (by omega), frK, stK_same s (show q ≤ s.size by omega) (show i + 1 < lnK s q by omega)] at h3
        omega
    have h7 : i < lnK s q := by
      by_cases hq : i < lnK s q
      · exact hq
      · have h8 : lnK s (q + 1) ≤ i + 1 := by rw [lnK_nl h5]; omega
        obtain ⟨q', h9, h10, _⟩ := stK_behind s (show q + 1 ≤ s.size by omega) h8 (show i + 1 < lnK s s.size by omega)
        rw [toK_nl (by omega), frK, h9] at h3
        omega
    have h8 := (stK_bounds s q i h7).2
    rw [← stK_same s (show q ≤ s.size by omega) h7] at h8
    rw [h3]
    exact ⟨h8, by omega⟩
/-- No newline stands within a line. -/
theorem line_no (s : ByteArray) {i x : Nat} (hi : i < lnK s s.size) (h1 : frK s i ≤ x) (h2 : (x : Int) < toK s i) : ¬ byteAt s x = 10 := by
  intro h
  obtain ⟨h3, _, _⟩ := line_of s hi h1 (by omega)
  have hx : x + 1 ≤ s.size := by have := (frK_toK s hi).2; omega
  have hm := lnK_mono s hx
  rw [lnK_nl h, h3] at hm
  have h4 : frK s (i + 1) = x + 1 := by
    rw [frK, stK_same s hx (by rw [lnK_nl h]; omega), stK_nl h]
    rw [← h3]
    simp [lnK, List.getD]
  rw [toK_nl (by omega)] at h2
  omega
/-- A byte is of its line. -/
theorem of_line (s : ByteArray) {x : Nat} (hx : x ≤ s.size) : lnK s x - 1 < lnK s s.size ∧ frK s (lnK s x - 1) = lsK s x ∧ (x : Int) ≤ toK s (lnK s x - 1) := by
  have hp := lnK_pos s x
  have hm := lnK_mono s hx
  refine ⟨by omega, ?_, ?_⟩
  · rw [frK, stK_same s hx (by omega), stK_last]
  · by_cases h : lnK s x - 1 + 1 = lnK s s.size
    · rw [toK_last h]; omega
    · obtain ⟨q, h1, h2, _⟩ := stK_behind s hx (i := lnK s x - 1 + 1) (by omega) (by omega)
      rw [toK_nl (by omega), frK, h1]; omega
/-- Two texts alike up to k. -/
theorem stK_congr {s t : ByteArray} : ∀ k, (∀ i, i < k → byteAt s i = byteAt t i) → stK s k = stK t k ∧ lsK s k = lsK t k
  | 0, _ => ⟨rfl, rfl⟩
  | k + 1, h => by
    obtain ⟨h1, h2⟩ := stK_congr k (fun i hi => h i (by omega))
    have hk := h k (by omega)
    rw [stK, stK, lsK, lsK, hk, h1, h2]
    exact ⟨rfl, rfl⟩
/-- Behind a newline. -/
theorem two_lines {s a b : ByteArray} (ha : ∀ i, i < a.size → byteAt s i = byteAt a i) (hn : byteAt s a.size = 10) (hb : ∀ i, i < b.size → byteAt s (a.size + 1 + i) = byteAt b i) :
    ∀ k, k ≤ b.size → lnK s (a.size + 1 + k) = lnK a a.size + lnK b k ∧ lsK s (a.size + 1 + k) = a.size + 1 + lsK b k
  | 0, _ => by
    rw [Nat.add_zero, lnK_nl hn, lsK_nl hn, lnK, (stK_congr a.size ha).1]
    exact ⟨rfl, rfl⟩
  | k + 1, hk => by
    obtain ⟨h1, h2⟩ := two_lines ha hn hb k (by omega)
    have h3 := hb k (by omega)
    rw [show a.size + 1 + (k + 1) = (a.size + 1 + k) + 1 by omega]
    by_cases h : byteAt b k = 10
    · rw [lnK_nl (h3.trans h), lsK_nl (h3.trans h), lnK_nl h, lsK_nl h]; omega
    · rw [lnK_no (fun e => h (h3.symm.trans e)), lsK_no (fun e => h (h3.symm.trans e)), lnK_no h, lsK_no h]; omega
/-- The count and the last one, as the library tells them. -/
theorem byteAt_list (s : ByteArray) {k : Nat} (hk : k < s.size) : s.data.toList[k]? = some (UInt8.ofNat (byteAt s k)) := by
  have h : k < s.data.size := hk
  rw [byteAt_eq, Array.getElem?_toList, Array.getElem?_eq_getElem h]
  simp
theorem count_ln (s : ByteArray) : ∀ k, k ≤ s.size → (s.data.toList.take k).count 10 + 1 = lnK s k
  | 0, _ => by simp [lnK, stK]
  | k + 1, hk => by
    have := count_ln s k (by omega)
    rw [List.take_add_one, byteAt_list s (by omega), Option.toList_some, List.count_append]
    by_cases h : byteAt s k = 10
    · rw [lnK_nl h, ← this, h]; rfl
    · rw [lnK_no h, ← this]
      have : ¬ UInt8.ofNat (byteAt s k) = 10 := by
        intro e
        have e2 := congrArg UInt8.toNat e
        rw [UInt8.toNat_ofNat_of_lt' (byteAt_lt s k)] at e2
        exact h e2
      rw [List.count_singleton, if_neg (by simpa using this)]
theorem count_ahead (s : ByteArray) {k : Nat} (hk : k ≤ s.size) : ((s.extract 0 k).data.toList.count 10 : Int) + 1 = lnK s k := by
  rw [← count_ln s k hk]
  simp [ByteArray.data_extract]
theorem last_ahead (s : ByteArray) {k : Nat} (hk : k ≤ s.size) : ∀ m, m ≤ k → Lib.lastIdx (s.extract 0 k) 10 m = lsK s m - 1
  | 0, _ => rfl
  | m + 1, hm => by
    have hb : (((s.extract 0 k).data[m]!).toNat : Int) = byteAt s m := by
      have h1 : m < s.data.size := Nat.lt_of_lt_of_le (by omega) hk
      rw [byteAt_eq, ByteArray.data_extract, Array.getElem!_eq_getD, Array.getD_eq_getD_getElem?, Array.getElem?_extract, if_pos (show m < min k s.data.size - 0 by omega), Nat.zero_add, Array.getElem?_eq_getElem h1]
      rfl
    by_cases h : byteAt s m = 10
    · rw [Lib.lastIdx_hit _ _ _ (by rw [hb, h]; rfl), lsK_nl h]; omega
    · rw [Lib.lastIdx_miss _ _ _ (by rw [hb]; omega), lsK_no h, last_ahead s hk m (by omega)]
theorem last_index (s : ByteArray) {k : Nat} (hk : k ≤ s.size) : Lib.lastIndexByte (s.extract 0 k) 10 = lsK s k - 1 := by
  have : (s.extract 0 k).size = k := by rw [ByteArray.size_extract]; omega
  rw [Lib.lastIndexByte, this]
  exact last_ahead s hk k (Nat.le_refl _)
end Go.Proofs.Ytkpaafdmhalbmaa

/-
  Edits back. No program.
-/
import Derived.Test.YtilakbhekbamiaaEdMath
namespace Go.Proofs.Ytilakbhekbamiaa
theorem bext {a b : ByteArray} (h : a.size = b.size) (hb : ∀ i, i < a.size → byteAt a i = byteAt b i) : a = b := by
  apply ByteArray.ext
  apply Array.ext
  · exact h
  · intro i h1 h2
    have h1' : i < a.size := h1
    have := hb i h1'
    rw [byteAt_eq, byteAt_eq, Array.getElem?_eq_getElem h1, Array.getElem?_eq_getElem h2] at this
    exact UInt8.toNat_inj.1 this
theorem byteAt_sub (s : ByteArray) (a b i : Nat) (hb : b ≤ s.size) (h : a + i < b) : byteAt (s.extract a b) i = byteAt s (a + i) := by
  rw [byteAt_eq, byteAt_eq, ByteArray.data_extract, Array.getElem?_extract]
  have e : s.size = s.data.size := rfl
  rw [if_pos (by omega)]
theorem sub_size {s : ByteArray} {a b : Nat} (hb : b ≤ s.size) : (s.extract a b).size = b - a := by rw [ByteArray.size_extract]; omega
theorem sub_join (s : ByteArray) (a b c : Nat) (hab : a ≤ b) (hbc : b ≤ c) (hc : c ≤ s.size) : s.extract a b ++ s.extract b c = s.extract a c := by
  apply bext
  · rw [ByteArray.size_append, sub_size (by omega), sub_size hc, sub_size hc]; omega
  · intro i hi
    rw [ByteArray.size_append, sub_size (by omega), sub_size hc] at hi
    by_cases h : i < b - a
    · rw [byteAt_left _ _ _ (by rw [sub_size (by omega)]; omega), byteAt_sub _ _ _ _ (by omega) (by omega), byteAt_sub _ _ _ _ hc (by omega)]
    · have hs : (s.extract a b).size = b - a := sub_size (by omega)
      have := byteAt_right (s.extract a b) (s.extract b c) (i - (b - a))
      rw [hs, show b - a + (i - (b - a)) = i by omega] at this
      rw [this, byteAt_sub _ _ _ _ hc (by omega), byteAt_sub _ _ _ _ hc (by omega)]
      congr 1
      omega
theorem sub_all (s : ByteArray) : s.extract 0 s.size = s := by
  apply bext
  · rw [sub_size (Nat.le_refl _)]; omega
  · intro i hi
    rw [sub_size (Nat.le_refl _)] at hi
    rw [byteAt_sub _ _ _ _ (Nat.le_refl _) (by omega), Nat.zero_add]
/-- What stands in the midst. -/
theorem sub_mid (a b c : ByteArray) : (a ++ (b ++ c)).extract a.size (a.size + b.size) = b := by
  have hz : (a ++ (b ++ c)).size = a.size + (b.size + c.size) := by rw [ByteArray.size_append, ByteArray.size_append]
  apply bext
  · rw [sub_size (by omega)]; omega
  · intro i hi
    rw [sub_size (by omega)] at hi
    rw [byteAt_sub _ _ _ _ (by omega) (by omega), byteAt_right, byteAt_left _ _ _ (by omega)]
theorem sub_end (a b : ByteArray) : (a ++ b).extract a.size (a ++ b).size = b := by
  have hz : (a ++ b).size = a.size + b.size := by rw [ByteArray.size_append]
  apply bext
  · rw [sub_size (Nat.le_refl _)]; omega
  · intro i hi
    rw [sub_size (Nat.le_refl _)] at hi
    rw [byteAt_sub _ _ _ _ (Nat.le_refl _) (by omega), byteAt_right]
theorem app_assoc (a b c : ByteArray) : a ++ b ++ c = a ++ (b ++ c) := by
  apply ByteArray.ext
  rw [ByteArray.data_append, ByteArray.data_append, ByteArray.data_append, ByteArray.data_append, Array.append_assoc]
/-- What has come of the first k stands at the beginning of what comes of all. -/
theorem app_pre (s : ByteArray) (l : List Ed) : ∀ d k, k + d = l.length → ∃ r, appS s l = outK s l k ++ r
  | 0, k, h => ⟨s.extract (atK l l.length) s.size, by rw [appS, ← h]; rfl⟩
  | d + 1, k, h => by
    obtain ⟨r, hr⟩ := app_pre s l d (k + 1) (by omega)
    exact ⟨s.extract (atK l k) (l.getD k ed0).p.toNat ++ (l.getD k ed0).s ++ r, by rw [hr, outK, app_assoc]⟩
theorem app_at (s : ByteArray) (l : List Ed) {k : Nat} (h : k < l.length) : ∃ r, appS s l = outK s l k ++ (s.extract (atK l k) (l.getD k ed0).p.toNat ++ ((l.getD k ed0).s ++ r)) := by
  obtain ⟨r, hr⟩ := app_pre s l (l.length - (k + 1)) (k + 1) (by omega)
  exact ⟨r, by rw [hr, outK, app_assoc, app_assoc]⟩
/-- Where the k-th one's text has come to stand. -/
def posK (s : ByteArray) (l : List Ed) (k : Nat) : Nat := (outK s l k).size + ((l.getD k ed0).p.toNat - atK l k)
/-- The k-th one back. -/
def bakK (s : ByteArray) (l : List Ed) (k : Nat) : Ed := ⟨posK s l k, (l.getD k ed0).s.size, s.extract (l.getD k ed0).p.toNat ((l.getD k ed0).p + (l.getD k ed0).n).toNat⟩
def bakL (s : ByteArray) (l : List Ed) : List Ed := (List.range l.length).map (bakK s l)
theorem bakL_len (s : ByteArray) (l : List Ed) : (bakL s l).length = l.length := by simp [bakL]
theorem bakL_at (s : ByteArray) (l : List Ed) {k : Nat} (h : k < l.length) : (bakL s l).getD k ed0 = bakK s l k := by simp [bakL, List.getD, h]
section
variable {s : ByteArray} {l : List Ed} (hm : mayB l s.size = true)
include hm
theorem may_at {k : Nat} (h : k < l.length) : 0 ≤ (l.getD k ed0).p ∧ 0 ≤ (l.getD k ed0).n ∧ (l.getD k ed0).p + (l.getD k ed0).n ≤ s.size ∧ (atK l k : Int) ≤ (l.getD k ed0).p ∧ atK l (k + 1) = (l.getD k ed0).p.toNat + (l.getD k ed0).n.toNat := by
  have h1 := okE_iff.1 (mayK_at h hm).1
  have h2 := atK_next (mayK_le (show k + 1 ≤ l.length by omega) hm)
  exact ⟨h1.1, h1.2.1, by omega, h2, by rw [atK]; omega⟩
/-- How long it is. -/
theorem out_next {k : Nat} (h : k < l.length) : (outK s l (k + 1)).size = posK s l k + (l.getD k ed0).s.size := by
  obtain ⟨h1, h2, h3, h4, _⟩ := may_at hm h
  rw [outK, ByteArray.size_append, ByteArray.size_append, sub_size (by omega), posK]
  omega
/-- By the edits back where the text goes on is where the first k end. -/
theorem bak_at : ∀ {k : Nat}, k ≤ l.length → atK (bakL s l) k = (outK s l k).size
  | 0, _ => rfl
  | k + 1, h => by
    rw [out_next hm h, atK, bakL_at s l h, bakK]
    dsimp only
    omega
/-- One byte at least stays between two. -/
theorem pos_gap {k : Nat} (h : k + 1 < l.length) : posK s l k + (l.getD k ed0).s.size < posK s l (k + 1) := by
  have h1 := gapE_iff.1 ((mayK_at h hm).2 (by omega))
  obtain ⟨a1, a2, a3, a4, a5⟩ := may_at hm (show k < l.length by omega)
  obtain ⟨b1, b2, b3, b4, b5⟩ := may_at hm h
  have h2 := out_next hm (show k < l.length by omega)
  rw [Nat.add_sub_cancel] at h1
  have h3 : posK s l (k + 1) = (outK s l (k + 1)).size + ((l.getD (k + 1) ed0).p.toNat - atK l (k + 1)) := rfl
  omega
theorem pos_end {k : Nat} (h : k < l.length) : posK s l k + (l.getD k ed0).s.size ≤ (appS s l).size := by
  obtain ⟨r, hr⟩ := app_pre s l (l.length - (k + 1)) (k + 1) (by omega)
  rw [← out_next hm h, hr, ByteArray.size_append]
  omega
/-- Edits back may be. -/
theorem bak_may : mayB (bakL s l) (appS s l).size = true := by
  rw [mayB, bakL_len]
  suffices ∀ k, k ≤ l.length → mayK (bakL s l) (appS s l).size k = true from this _ (Nat.le_refl _)
  intro k
  induction k with
  | zero => intro _; rfl
  | succ k ih =>
    intro hk
    have he := pos_end hm (show k < l.length by omega)
    rw [mayK, ih (by omega), bakL_at s l (by omega)]
    have h1 : okE (appS s l).size (bakK s l k) = true := okE_iff.2 ⟨by rw [bakK]; dsimp only; omega, by rw [bakK]; dsimp only; omega, by rw [bakK]; dsimp only; omega, by rw [bakK]; dsimp only; omega⟩
    rw [h1, Bool.true_and, Bool.true_and, Bool.or_eq_true]
    by_cases h0 : k = 0
    · exact .inl (by simp [h0])
    · refine .inr ?_
      obtain ⟨j, rfl⟩ : ∃ j, k = j + 1 := ⟨k - 1, by omega⟩
      rw [Nat.add_sub_cancel, bakL_at s l (by omega)]
      have := pos_gap hm (show j + 1 < l.length by omega)
      exact gapE_iff.2 ⟨by rw [bakK, bakK]; dsimp only; omega, by rw [bakK, bakK]; dsimp only; omega⟩
/-- What they make of the first k is what was there. -/
theorem bak_out : ∀ {k : Nat}, k ≤ l.length → outK (appS s l) (bakL s l) k = s.extract 0 (atK l k)
  | 0, _ => by
    rw [outK, atK]
    apply ByteArray.ext
    simp
  | k + 1, h => by
    obtain ⟨h1, h2, h3, h4, h5⟩ := may_at hm h
    obtain ⟨r, hr⟩ := app_at s l h
    have hz : (s.extract (atK l k) (l.getD k ed0).p.toNat).size = (l.getD k ed0).p.toNat - atK l k := sub_size (by omega)
    have hmid := sub_mid (outK s l k) (s.extract (atK l k) (l.getD k ed0).p.toNat) ((l.getD k ed0).s ++ r)
    rw [← hr, hz] at hmid
    rw [outK, bak_out (by omega), bak_at hm (by omega), bakL_at s l h, bakK]
    dsimp only
    rw [show ((posK s l k : Nat) : Int).toNat = posK s l k by omega, posK, hmid, sub_join s _ _ _ (by omega) (by omega) (by omega), sub_join s _ _ _ (by omega) (by omega) (by omega)]
    rfl
/-- The text again. -/
theorem bak_app : appS (appS s l) (bakL s l) = s := by
  rw [appS, bakL_len, bak_out hm (Nat.le_refl _), bak_at hm (Nat.le_refl _)]
  have hend := sub_end (outK s l l.length) (s.extract (atK l l.length) s.size)
  rw [show outK s l l.length ++ s.extract (atK l l.length) s.size = appS s l from rfl] at hend
  rw [hend, sub_join s _ _ _ (Nat.zero_le _) (atK_le hm) (Nat.le_refl _)]
  exact sub_all s
end
end Go.Proofs.Ytilakbhekbamiaa

/-
  Edits back and back again; how far texts are shifted; edits laid one by one. No program.
-/
import Derived.Test.YtilakbhekbamiaaEdBack
namespace Go.Proofs.Ytilakbhekbamiaa
/-- By how much the first k have shifted what follows. -/
def shK (l : List Ed) : Nat → Int
  | 0 => 0
  | k + 1 => shK l k + ((l.getD k ed0).s.size - (l.getD k ed0).n)
/-- What is behind the first k in what comes of all. -/
def reF (s : ByteArray) (l : List Ed) : Nat → Nat → ByteArray
  | 0, k => s.extract (atK l k) s.size
  | d + 1, k => s.extract (atK l k) (l.getD k ed0).p.toNat ++ ((l.getD k ed0).s ++ reF s l d (k + 1))
def reK (s : ByteArray) (l : List Ed) (k : Nat) : ByteArray := reF s l (l.length - k) k
theorem reK_end (s : ByteArray) (l : List Ed) : reK s l l.length = s.extract (atK l l.length) s.size := by rw [reK, Nat.sub_self]; rfl
theorem reK_at (s : ByteArray) (l : List Ed) {k : Nat} (h : k < l.length) : reK s l k = s.extract (atK l k) (l.getD k ed0).p.toNat ++ ((l.getD k ed0).s ++ reK s l (k + 1)) := by
  rw [reK, show l.length - k = (l.length - (k + 1)) + 1 by omega]; rfl
theorem app_re (s : ByteArray) (l : List Ed) : ∀ d k, k + d = l.length → appS s l = outK s l k ++ reK s l k
  | 0, k, h => by obtain rfl : k = l.length := by omega
                  rw [reK_end]; rfl
  | d + 1, k, h => by rw [app_re s l d (k + 1) (by omega), reK_at s l (show k < l.length by omega), outK, app_assoc, app_assoc]
/-- The text behind which the edits from k on are laid. -/
def laK (s : ByteArray) (l : List Ed) (k : Nat) : ByteArray := s.extract 0 (atK l k) ++ reK s l k
theorem laK_zero (s : ByteArray) (l : List Ed) : laK s l 0 = appS s l := by
  rw [laK, app_re s l l.length 0 (by omega)]
  congr 1
  rw [atK, outK]
  apply ByteArray.ext
  simp
section
variable {s : ByteArray} {l : List Ed} (hm : mayB l s.size = true)
include hm
theorem laK_end : laK s l l.length = s := by
  rw [laK, reK_end, sub_join s _ _ _ (Nat.zero_le _) (atK_le hm) (Nat.le_refl _)]
  exact sub_all s
theorem out_shift : ∀ {k : Nat}, k ≤ l.length → ((outK s l k).size : Int) = atK l k + shK l k
  | 0, _ => rfl
  | k + 1, h => by
    have h0 := out_shift (k := k) (by omega)
    obtain ⟨h1, h2, h3, h4, h5⟩ := may_at hm h
    rw [out_next hm h, posK, h5, shK]
    omega
/-- Where the k-th one's text has come to stand. -/
theorem pos_shift {k : Nat} (h : k < l.length) : (posK s l k : Int) = (l.getD k ed0).p + shK l k := by
  have h0 := out_shift hm (k := k) (by omega)
  obtain ⟨h1, h2, h3, h4, h5⟩ := may_at hm h
  rw [posK]
  omega
/-- Back and back again. -/
theorem bak_bak : bakL (appS s l) (bakL s l) = l := by
  apply List.ext_getElem
  · rw [bakL_len, bakL_len]
  · intro k h1 h2
    have hk : k < l.length := h2
    have hg : ∀ (L : List Ed) (h : k < L.length), L[k] = L.getD k ed0 := fun L h => by simp [List.getD, h]
    rw [hg _ h1, hg _ h2, bakL_at _ _ (by rw [bakL_len]; exact hk), bakK]
    obtain ⟨a1, a2, a3, a4, a5⟩ := may_at hm hk
    have hp : posK (appS s l) (bakL s l) k = (l.getD k ed0).p.toNat := by
      rw [posK, bak_out hm (by omega), bak_at hm (by omega), bakL_at s l hk, bakK, sub_size (atK_le (mayK_le (show k ≤ l.length by omega) hm))]
      dsimp only
      rw [posK]
      omega
    rw [hp, bakL_at s l hk, bakK]
    dsimp only
    obtain ⟨r, hr⟩ := app_at s l hk
    have hz : (outK s l k ++ s.extract (atK l k) (l.getD k ed0).p.toNat).size = posK s l k := by rw [ByteArray.size_append, sub_size (by omega)]; rfl
    have hmid := sub_mid (outK s l k ++ s.extract (atK l k) (l.getD k ed0).p.toNat) (l.getD k ed0).s r
    rw [app_assoc, ← hr, hz] at hmid
    rw [sub_size (by omega), show ((posK s l k : Nat) : Int).toNat = posK s l k by omega, show (((posK s l k : Nat) : Int) + ((l.getD k ed0).s.size : Nat)).toNat = posK s l k + (l.getD k ed0).s.size by omega, hmid]
    generalize l.getD k ed0 = e at *
    obtain ⟨p, n, t⟩ := e
    dsimp only at *
    congr 1 <;> omega
theorem la_size {k : Nat} (h : k ≤ l.length) : atK l k ≤ (laK s l k).size := by
  rw [laK, ByteArray.size_append, sub_size (atK_le (mayK_le h hm))]; omega
/-- One more of them, laid. -/
theorem la_step {k : Nat} (h : k < l.length) : mayB [l.getD k ed0] (laK s l (k + 1)).size = true ∧ appS (laK s l (k + 1)) [l.getD k ed0] = laK s l k := by
  obtain ⟨a1, a2, a3, a4, a5⟩ := may_at hm h
  have hz := la_size hm (show k + 1 ≤ l.length by omega)
  have hsz : (s.extract 0 (atK l (k + 1))).size = atK l (k + 1) := by rw [sub_size (by omega)]; omega
  refine ⟨?_, ?_⟩
  · rw [mayB]
    show (true && okE _ _ && true) = true
    rw [Bool.and_true, Bool.true_and]
    exact okE_iff.2 ⟨by simpa using a1, by simpa using a2, by simp only [List.getD_cons_zero]; omega, by simp only [List.getD_cons_zero]; omega⟩
  · show (⟨#[]⟩ ++ ((laK s l (k + 1)).extract 0 (l.getD k ed0).p.toNat ++ (l.getD k ed0).s)) ++ (laK s l (k + 1)).extract ((l.getD k ed0).p + (l.getD k ed0).n).toNat (laK s l (k + 1)).size = laK s l k
    have e1 : (laK s l (k + 1)).extract 0 (l.getD k ed0).p.toNat = s.extract 0 (l.getD k ed0).p.toNat := by
      apply bext
      · rw [sub_size (by omega), sub_size (by omega)]
      · intro i hi
        rw [sub_size (by omega)] at hi
        rw [byteAt_sub _ _ _ _ (by omega) (by omega), byteAt_sub _ _ _ _ (by omega) (by omega), laK, byteAt_left _ _ _ (by omega), byteAt_sub _ _ _ _ (by omega) (by omega), Nat.zero_add]
    have e2 : (laK s l (k + 1)).extract ((l.getD k ed0).p + (l.getD k ed0).n).toNat (laK s l (k + 1)).size = reK s l (k + 1) := by
      have := sub_end (s.extract 0 (atK l (k + 1))) (reK s l (k + 1))
      rw [hsz, a5] at this
      rw [laK, show ((l.getD k ed0).p + (l.getD k ed0).n).toNat = (l.getD k ed0).p.toNat + (l.getD k ed0).n.toNat by omega, a5]
      exact this
    rw [e1, e2, laK, reK_at s l h, show (⟨#[]⟩ : ByteArray) ++ (s.extract 0 (l.getD k ed0).p.toNat ++ (l.getD k ed0).s) = s.extract 0 (l.getD k ed0).p.toNat ++ (l.getD k ed0).s by apply ByteArray.ext; simp [ByteArray.data_append], ← sub_join s 0 (atK l k) (l.getD k ed0).p.toNat (Nat.zero_le _) (by omega) (by omega), app_assoc, app_assoc]
end
end Go.Proofs.Ytilakbhekbamiaa

/-
  Heaps of edits: up, down. No program.
-/
import Derived.Test.YtpjpghigilbfaaaMgMath
namespace Go.Proofs.Ytpjpghigilbfaaa
def at0 (H : List Ed) (k : Nat) : Ed := H.getD k ed0
def swpL (H : List Ed) (i j : Nat) : List Ed := (H.set i (H.getD j ed0)).set j (H.getD i ed0)
theorem swpL_len (H : List Ed) (i j : Nat) : (swpL H i j).length = H.length := by simp [swpL]
theorem at0_swp (H : List Ed) (i j k : Nat) (hi : i < H.length) (hj : j < H.length) : at0 (swpL H i j) k = if k = j then at0 H i else if k = i then at0 H j else at0 H k := by
  unfold at0 swpL
  simp only [List.getD, List.getElem?_set, List.length_set]
  by_cases h1 : k = j
  · subst h1; simp [hj]
  · rw [if_neg (fun h => h1 h.symm), if_neg h1]
    by_cases h2 : k = i
    · subst h2; simp [hi]
    · rw [if_neg (fun h => h2 h.symm), if_neg h2]
theorem swp_perm (H : List Ed) (i j : Nat) (hi : i < H.length) (hj : j < H.length) : (swpL H i j).Perm H := by
  unfold swpL
  rw [show H.getD j ed0 = H[j] by simp [List.getD, hj], show H.getD i ed0 = H[i] by simp [List.getD, hi]]
  exact List.set_set_perm hi hj
/-- No one is less than the one above it. -/
def Heap (H : List Ed) (n : Nat) : Prop := ∀ k, 0 < k → k < n → ltE (at0 H k) (at0 H ((k - 1) / 2)) = false
def UpI (H : List Ed) (j : Nat) : Prop :=
  (∀ k, 0 < k → k < H.length → k ≠ j → ltE (at0 H k) (at0 H ((k - 1) / 2)) = false) ∧ (∀ k, 0 < k → k < H.length → (k - 1) / 2 = j → 0 < j → ltE (at0 H k) (at0 H ((j - 1) / 2)) = false)
theorem up_start {H : List Ed} (h : Heap H H.length) (e : Ed) : UpI (H ++ [e]) H.length := by
  have ha : ∀ k, k < H.length → at0 (H ++ [e]) k = at0 H k := fun k hk => by simp [at0, List.getD, List.getElem?_append_left hk]
  refine ⟨fun k h0 hk hne => ?_, fun k h0 hk hp hj => ?_⟩
  · simp at hk
    rw [ha k (by omega), ha _ (by omega)]
    exact h k h0 (by omega)
  · simp at hk; omega
theorem up_step {H : List Ed} {j : Nat} (h : UpI H j) (hj : j < H.length) (h0 : 0 < j) (hlt : ltE (at0 H j) (at0 H ((j - 1) / 2)) = true) : UpI (swpL H ((j - 1) / 2) j) ((j - 1) / 2) := by
  obtain ⟨h1, h2⟩ := h
  obtain ⟨p, hp⟩ : ∃ p, (j - 1) / 2 = p := ⟨_, rfl⟩
  rw [hp] at hlt ⊢
  have hpj : p < j := by omega
  have ha : ∀ k, at0 (swpL H p j) k = if k = j then at0 H p else if k = p then at0 H j else at0 H k := fun k => at0_swp H p j k (by omega) hj
  refine ⟨fun k k0 hk hne => ?_, fun k k0 hk hkp hp0 => ?_⟩
  · rw [swpL_len] at hk
    rw [ha, ha]
    by_cases c1 : k = j
    · subst c1
      rw [if_pos rfl, hp, if_neg (by omega), if_pos rfl]
      exact ltE_asymm hlt
    · rw [if_neg c1, if_neg hne]
      by_cases c2 : (k - 1) / 2 = j
      · rw [if_pos c2]
        have := h2 k k0 hk c2 h0
        rwa [hp] at this
      · rw [if_neg c2]
        have := h1 k k0 hk c1
        by_cases c3 : (k - 1) / 2 = p
        · rw [if_pos c3]
          rw [c3] at this
          exact ltE_ntrans this (ltE_asymm hlt)
        · rw [if_neg c3]; exact this
  · rw [swpL_len] at hk
    have hpp : (p - 1) / 2 < p := by omega
    rw [ha, ha ((p - 1) / 2), if_neg (by omega : ¬ (p - 1) / 2 = j), if_neg (by omega : ¬ (p - 1) / 2 = p)]
    have hpf := h1 p hp0 (by omega) (by omega)
    by_cases c1 : k = j
    · rw [if_pos c1]; exact hpf
    · rw [if_neg c1, if_neg (by omega)]
      have := h1 k k0 hk c1
      rw [hkp] at this
      exact ltE_ntrans this hpf
theorem up_end {H : List Ed} {j : Nat} (h : UpI H j) (he : j = 0 ∨ ltE (at0 H j) (at0 H ((j - 1) / 2)) = false) : Heap H H.length := by
  intro k k0 hk
  by_cases c : k = j
  · subst c
    rcases he with he | he
    · omega
    · exact he
  · exact h.1 k k0 hk c
def DnI (H : List Ed) (n i : Nat) : Prop :=
  (∀ k, 0 < k → k < n → (k - 1) / 2 ≠ i → ltE (at0 H k) (at0 H ((k - 1) / 2)) = false) ∧ (∀ k, 0 < k → k < n → (k - 1) / 2 = i → 0 < i → ltE (at0 H k) (at0 H ((i - 1) / 2)) = false)
theorem dn_step {H : List Ed} {n i j : Nat} (h : DnI H n i) (hn : n ≤ H.length) (hj : j < n) (hji : (j - 1) / 2 = i) (h0 : 0 < j) (hlt : ltE (at0 H j) (at0 H i) = true)
    (hmin : ∀ c, 0 < c → c < n → (c - 1) / 2 = i → ltE (at0 H c) (at0 H j) = false) : DnI (swpL H i j) n j := by
  obtain ⟨h1, h2⟩ := h
  have hij : i < j := by omega
  have ha : ∀ k, at0 (swpL H i j) k = if k = j then at0 H i else if k = i then at0 H j else at0 H k := fun k => at0_swp H i j k (by omega) (by omega)
  refine ⟨fun k k0 hk hne => ?_, fun k k0 hk hkp _ => ?_⟩
  · rw [ha, ha]
    rw [if_neg hne]
    by_cases c1 : k = j
    · subst c1
      rw [if_pos rfl, if_pos hji]
      exact ltE_asymm hlt
    · rw [if_neg c1]
      by_cases c2 : k = i
      · subst c2
        rw [if_pos rfl, if_neg (by omega)]
        exact h2 j h0 hj hji k0
      · rw [if_neg c2]
        by_cases c3 : (k - 1) / 2 = i
        · rw [if_pos c3]; exact hmin k k0 hk c3
        · rw [if_neg c3]; exact h1 k k0 hk c3
  · rw [ha, ha, hji, if_neg (by omega : ¬ i = j), if_pos rfl, if_neg (by omega : ¬ k = j), if_neg (by omega : ¬ k = i)]
    have := h1 k k0 hk (by omega)
    rwa [hkp] at this
theorem dn_end {H : List Ed} {n i : Nat} (h : DnI H n i) (he : ∀ c, 0 < c → c < n → (c - 1) / 2 = i → ltE (at0 H c) (at0 H i) = false) : Heap H n := by
  intro k k0 hk
  by_cases c : (k - 1) / 2 = i
  · rw [c]; exact he k k0 hk c
  · exact h.1 k k0 hk c
theorem dn_start {H : List Ed} {n : Nat} (h : Heap H (n + 1)) (hl : H.length = n + 1) : DnI (swpL H 0 n) n 0 := by
  refine ⟨fun k k0 hk hne => ?_, fun k k0 hk hp h0 => absurd h0 (Nat.lt_irrefl 0)⟩
  rw [at0_swp H 0 n k (by omega) (by omega), at0_swp H 0 n _ (by omega) (by omega), if_neg (by omega : ¬ k = n), if_neg (by omega : ¬ k = 0), if_neg (by omega : ¬ (k - 1) / 2 = n), if_neg hne]
  exact h k k0 (by omega)
/-- The first one is the least. -/
theorem heap_min {H : List Ed} {n : Nat} (h : Heap H n) : ∀ k, k < n → ltE (at0 H k) (at0 H 0) = false := by
  intro k
  induction k using Nat.strongRecOn with
  | ind k ih =>
    intro hk
    by_cases c : k = 0
    · subst c; exact ltE_irrefl _
    · exact ltE_ntrans (h k (by omega) hk) (ih ((k - 1) / 2) (by omega) (by omega))
theorem heap_take {H : List Ed} {n m : Nat} (h : Heap H n) (hm : m ≤ n) : Heap (H.take m) m := by
  have ha : ∀ k, k < m → at0 (H.take m) k = at0 H k := fun k hk => by simp [at0, List.getD, List.getElem?_take_of_lt hk]
  intro k k0 hk
  rw [ha k hk, ha _ (by omega)]
  exact h k k0 (by omega)
/-- The first of a heap is the first of its edits in order. -/
theorem heap_first {H W : List Ed} (h : Heap H H.length) (hp : H.Perm W) (hs : Srt W) (h0 : 0 < H.length) : ∃ T, W = at0 H 0 :: T := by
  cases W with
  | nil => have := hp.length_eq; rw [List.length_nil] at this; omega
  | cons x T =>
    have e : at0 H 0 = x := by
      have h1 : at0 H 0 ∈ x :: T := hp.mem_iff.1 (by rw [at0, show H.getD 0 ed0 = H[0] by simp [List.getD, h0]]; exact List.getElem_mem h0)
      have h2 : x ∈ H := hp.mem_iff.2 List.mem_cons_self
      obtain ⟨k, hk, hx⟩ := List.mem_iff_getElem.1 h2
      have h3 := heap_min h k hk
      rw [show at0 H k = x by rw [at0, ← hx]; simp [List.getD, hk]] at h3
      rcases List.mem_cons.1 h1 with h4 | h4
      · exact h4
      · exact ltE_total ((List.pairwise_cons.1 hs).1 _ h4) h3
    exact ⟨T, by rw [e]⟩
end Go.Proofs.Ytpjpghigilbfaaa

/-
  Scopes, as a list of entries and of where scopes begin (no program).
-/
import Derived.Test.YtlmfoieolomcfaaBts
namespace Go.Proofs.Ytlmfoieolomcfaa
open Go.RowKit
set_option linter.unusedSimpArgs false
set_option linter.unusedVariables false
/-- A name that a scope has: what it stands for, where the same name's entry of an outer scope stands. -/
structure En where
  n : ByteArray
  f : Int
  t : Int
  k : Int
  o : Int
/-- Where the last entry of a name stands, those from place i on looked through; a: what was found ahead of them. -/
def plG (s : ByteArray) : List En → Int → Int → Int
  | [], _, a => a
  | e :: r, i, a => plG s r (i + 1) (if e.n = s then i else a)
def plc (s : ByteArray) (l : List En) : Int := plG s l 0 (-1)
theorem plG_app (s : ByteArray) (e : En) : ∀ (l : List En) (i a : Int), plG s (l ++ [e]) i a = if e.n = s then i + l.length else plG s l i a := by
  intro l
  induction l with
  | nil => intro i a; simp [plG]
  | cons x r ih =>
    intro i a
    show plG s (r ++ [e]) (i + 1) _ = _
    rw [ih]
    simp only [plG, List.length_cons]
    split
    · push_cast; omega
    · rfl
theorem plc_snoc (s : ByteArray) (l : List En) (e : En) : plc s (l ++ [e]) = if e.n = s then (l.length : Int) else plc s l := by
  unfold plc
  rw [plG_app]
  simp
theorem plc_nil (s : ByteArray) : plc s [] = -1 := rfl
theorem snocInd {α : Type} {p : List α → Prop} (h0 : p []) (h1 : ∀ l e, p l → p (l ++ [e])) (l : List α) : p l := by
  rw [← List.reverse_reverse l]
  generalize l.reverse = r
  induction r with
  | nil => exact h0
  | cons a r ih => rw [List.reverse_cons]; exact h1 _ _ ih
theorem plc_lt (s : ByteArray) (l : List En) : plc s l < l.length ∧ -1 ≤ plc s l := by
  induction l using snocInd with
  | h0 => rw [plc_nil]; simp
  | h1 l e ih =>
    rw [plc_snoc]
    simp only [List.length_append, List.length_cons, List.length_nil]
    split <;> omega
/-- What stands there bears the name. -/
theorem plc_name (s : ByteArray) (l : List En) (i : Nat) (hi : i < l.length) (h : plc s l = i) : l[i].n = s := by
  induction l using snocInd with
  | h0 => simp at hi
  | h1 l e ih =>
    rw [plc_snoc] at h
    split at h
    · rename_i hn
      have : i = l.length := by omega
      subst this
      simpa using hn
    · have hl := plc_lt s l
      have hi' : i < l.length := by omega
      rw [List.getElem_append_left hi']
      exact ih hi' h
/-- Each entry of the name stands there or ahead of it. -/
theorem plc_ge (s : ByteArray) (l : List En) (i : Nat) (hi : i < l.length) (h : l[i].n = s) : (i : Int) ≤ plc s l := by
  induction l using snocInd with
  | h0 => simp at hi
  | h1 l e ih =>
    rw [plc_snoc]
    by_cases hl : i < l.length
    · rw [List.getElem_append_left hl] at h
      have := ih hl h
      split <;> omega
    · have : i = l.length := by simp at hi; omega
      subst this
      have hn : e.n = s := by simpa using h
      rw [if_pos hn]
      exact Int.le_refl _
/-- Among the first k: what stands for the name within them. -/
theorem plc_take_lt (s : ByteArray) (l : List En) (k : Nat) (h : plc s l < k) : plc s (l.take k) = plc s l := by
  induction l using snocInd generalizing k with
  | h0 => simp
  | h1 l e ih =>
    rw [plc_snoc] at h ⊢
    split at h
    · rename_i hn
      rw [if_pos hn, List.take_of_length_le (by simp; omega), plc_snoc, if_pos hn]
    · rename_i hn
      rw [if_neg hn]
      by_cases hk : k ≤ l.length
      · rw [List.take_append_of_le_length hk]
        exact ih k h
      · rw [List.take_of_length_le (by simp; omega), plc_snoc, if_neg hn]
theorem plc_take_ge (s : ByteArray) (l : List En) (k : Nat) : plc s (l.take k) ≤ plc s l := by
  induction l using snocInd generalizing k with
  | h0 => simp
  | h1 l e ih =>
    rw [plc_snoc]
    by_cases hk : k ≤ l.length
    · rw [List.take_append_of_le_length hk]
      have := ih k
      have h2 := plc_lt s (l.take k)
      simp only [List.length_take] at h2
      split <;> omega
    · rw [List.take_of_length_le (by simp; omega), plc_snoc]
      exact Int.le_refl _
/-- Where the innermost scope begins. -/
def beg (bs : List Nat) : Nat := bs.getLast?.getD 0
theorem beg_nil : beg [] = 0 := rfl
theorem beg_snoc (bs : List Nat) (b : Nat) : beg (bs ++ [b]) = b := by simp [beg]
theorem beg_mem {bs : List Nat} (h : bs ≠ []) : beg bs ∈ bs := by
  unfold beg
  rw [List.getLast?_eq_some_getLast h]
  exact List.getLast_mem h
/-- How entries and scopes lie: begins rise; the outer entry of a name is told, and lies ahead of the scope. -/
structure Inv (es : List En) (bs : List Nat) : Prop where
  up : bs.Pairwise (· ≤ ·)
  le : ∀ b ∈ bs, b ≤ es.length
  out : ∀ (i : Nat) (h : i < es.length), es[i].o = plc es[i].n (es.take i)
  own : ∀ (i : Nat) (h : i < es.length), es[i].o < 0 ∨ ∃ b ∈ bs, b ≤ i ∧ es[i].o < b
theorem inv_nil : Inv [] [] := ⟨List.Pairwise.nil, by simp, fun i h => by simp at h, fun i h => by simp at h⟩
theorem beg_le {es : List En} {bs : List Nat} (h : Inv es bs) : beg bs ≤ es.length := by
  by_cases hb : bs = []
  · subst hb; simp [beg]
  · exact h.le _ (beg_mem hb)
theorem le_beg {bs : List Nat} (h : bs.Pairwise (· ≤ ·)) : ∀ b ∈ bs, b ≤ beg bs := by
  intro b hb
  induction bs using snocInd with
  | h0 => cases hb
  | h1 l e _ =>
    rw [beg_snoc]
    rcases List.mem_append.1 hb with h1 | h1
    · exact (List.pairwise_append.1 h).2.2 b h1 e (by simp)
    · simp at h1; omega
theorem Inv.push {es : List En} {bs : List Nat} (h : Inv es bs) : Inv es (bs ++ [es.length]) where
  up := List.pairwise_append.2 ⟨h.up, by simp, fun a ha b hb => by simp at hb; subst hb; exact h.le a ha⟩
  le := fun b hb => by
    rcases List.mem_append.1 hb with h1 | h1
    · exact h.le b h1
    · simp at h1; omega
  out := h.out
  own := fun i hi => by
    rcases h.own i hi with h1 | ⟨b, h1, h2⟩
    · exact .inl h1
    · exact .inr ⟨b, List.mem_append_left _ h1, h2⟩
/-- In the innermost scope an outer entry lies ahead of it. -/
theorem Inv.ahead {es : List En} {bs : List Nat} (h : Inv es bs) (i : Nat) (hi : i < es.length) (hb : beg bs ≤ i) : es[i].o < beg bs := by
  rcases h.own i hi with h1 | ⟨b, h1, h2, h3⟩
  · omega
  · have := le_beg h.up b h1
    omega
theorem Inv.add {es : List En} {bs : List Nat} (h : Inv es bs) {s : ByteArray} (f t k : Int) (hs : plc s es < beg bs) : Inv (es ++ [⟨s, f, t, k, plc s es⟩]) bs where
  up := h.up
  le := fun b hb => by have := h.le b hb; simp; omega
  out := fun i hi => by
    by_cases hl : i < es.length
    · rw [List.getElem_append_left hl, List.take_append_of_le_length (by omega)]
      exact h.out i hl
    · have : i = es.length := by simp at hi; omega
      subst this
      simp
  own := fun i hi => by
    by_cases hl : i < es.length
    · rw [List.getElem_append_left hl]
      exact h.own i hl
    · have : i = es.length := by simp at hi; omega
      subst this
      rw [List.getElem_append_right (by omega)]
      simp only [Nat.sub_self, List.getElem_cons_zero]
      by_cases hb : bs = []
      · subst hb; left; simp [beg] at hs; exact hs
      · exact .inr ⟨beg bs, beg_mem hb, beg_le h, hs⟩
theorem Inv.pop {es : List En} {bs : List Nat} {b : Nat} (h : Inv es (bs ++ [b])) : Inv (es.take b) bs := by
  have hb : b ≤ es.length := h.le b (by simp)
  have hup := List.pairwise_append.1 h.up
  refine ⟨hup.1, fun x hx => ?_, fun i hi => ?_, fun i hi => ?_⟩
  · have := hup.2.2 x hx b (by simp)
    simp; omega
  · simp at hi
    rw [List.getElem_take, List.take_take, Nat.min_eq_left (by omega)]
    exact h.out i (by omega)
  · simp at hi
    rw [List.getElem_take]
    rcases h.own i (by omega) with h1 | ⟨x, h1, h2, h3⟩
    · exact .inl h1
    · rcases List.mem_append.1 h1 with h4 | h4
      · exact .inr ⟨x, h4, h2, h3⟩
      · simp at h4; omega
open Classical in
/-- What a name stands for while the innermost scope's entries go one by one: j of them have gone. -/
noncomputable def mid (es : List En) (b j : Nat) (s : ByteArray) : Int := if ∃ i, b ≤ i ∧ i < b + j ∧ ∃ h : i < es.length, es[i].n = s then plc s (es.take b) else plc s es
theorem mid_zero (es : List En) (b : Nat) (s : ByteArray) : mid es b 0 s = plc s es := by
  unfold mid
  rw [if_neg]
  rintro ⟨i, h1, h2, _⟩
  omega
theorem mid_step {es : List En} {bs : List Nat} (h : Inv es bs) (j : Nat) (hj : beg bs + j < es.length) (s : ByteArray) : mid es (beg bs) (j + 1) s = if es[beg bs + j].n = s then es[beg bs + j].o else mid es (beg bs) j s := by
  by_cases hn : es[beg bs + j].n = s
  · rw [if_pos hn]
    unfold mid
    rw [if_pos ⟨beg bs + j, by omega, by omega, hj, hn⟩]
    have h1 := h.out _ hj
    have h2 := h.ahead _ hj (by omega)
    rw [hn] at h1
    rw [h1]
    have h3 := plc_take_lt s (es.take (beg bs + j)) (beg bs) (by omega)
    rw [List.take_take, Nat.min_eq_left (by omega)] at h3
    exact h3
  · rw [if_neg hn]
    unfold mid
    by_cases hx : ∃ i, beg bs ≤ i ∧ i < beg bs + j ∧ ∃ h : i < es.length, es[i].n = s
    · rw [if_pos hx, if_pos]
      obtain ⟨i, h1, h2, h3⟩ := hx
      exact ⟨i, h1, by omega, h3⟩
    · rw [if_neg hx, if_neg]
      rintro ⟨i, h1, h2, h3, h4⟩
      by_cases hij : i = beg bs + j
      · subst hij; exact hn h4
      · exact hx ⟨i, h1, by omega, h3, h4⟩
theorem mid_end {es : List En} {b : Nat} (hb : b ≤ es.length) (s : ByteArray) : mid es b (es.length - b) s = plc s (es.take b) := by
  unfold mid
  split
  · rfl
  · rename_i hx
    by_cases hl : plc s es < b
    · exact (plc_take_lt s es b hl).symm
    · have h1 := plc_lt s es
      obtain ⟨i, hi⟩ : ∃ i : Nat, plc s es = i := ⟨(plc s es).toNat, by omega⟩
      exfalso
      exact hx ⟨i, by omega, by omega, by omega, plc_name s es i (by omega) hi⟩
end Go.Proofs.Ytlmfoieolomcfaa

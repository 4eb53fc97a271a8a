/-
  The order of edits; sorted ones; each once. No program.
-/
import Derived.Test.YtpjpghigilbfaaaEdMath
import Derived.Lib.Bytealg
import Derived.Lib.Small
import Derived.Lib.SlicesCompact
import Derived.Sort.Statements
namespace Go.Proofs.Ytpjpghigilbfaaa
open Go.Lib Go.Sort
instance : Inhabited Ed := ⟨ed0⟩
instance : DecidableEq Ed := fun d e =>
  if h : d.p = e.p ∧ d.n = e.n ∧ d.s.data.toList = e.s.data.toList then .isTrue (by
    obtain ⟨p, n, ⟨⟨s⟩⟩⟩ := d
    obtain ⟨q, m, ⟨⟨t⟩⟩⟩ := e
    obtain ⟨h1, h2, h3⟩ := h
    simp only at h1 h2 h3
    subst h1 h2 h3
    rfl)
  else .isFalse (fun he => h (by subst he; exact ⟨rfl, rfl, rfl⟩))
/-- Texts, byte by byte. -/
theorem cmpB_self : ∀ a : List UInt8, compareBytes a a = 0
  | [] => rfl
  | x :: a => by rw [compareBytes, if_neg (UInt8.lt_irrefl x), if_neg (UInt8.lt_irrefl x), cmpB_self a]
theorem cmpB_range : ∀ a b : List UInt8, compareBytes a b = -1 ∨ compareBytes a b = 0 ∨ compareBytes a b = 1
  | [], [] => .inr (.inl rfl)
  | [], _ :: _ => .inl rfl
  | _ :: _, [] => .inr (.inr rfl)
  | x :: a, y :: b => by
    rw [compareBytes]
    split
    · exact .inl rfl
    · split
      · exact .inr (.inr rfl)
      · exact cmpB_range a b
theorem cmpB_zero : ∀ a b : List UInt8, compareBytes a b = 0 → a = b
  | [], [], _ => rfl
  | [], _ :: _, h => by cases h
  | _ :: _, [], h => by cases h
  | x :: a, y :: b, h => by
    rw [compareBytes] at h
    split at h
    · cases h
    · split at h
      · cases h
      · rename_i h1 h2
        rw [cmpB_zero a b h, UInt8.le_antisymm (UInt8.not_lt.1 h2) (UInt8.not_lt.1 h1)]
theorem cmpB_swap : ∀ a b : List UInt8, compareBytes b a = - compareBytes a b
  | [], [] => rfl
  | [], _ :: _ => rfl
  | _ :: _, [] => rfl
  | x :: a, y :: b => by
    rw [compareBytes, compareBytes]
    by_cases h1 : x < y
    · rw [if_neg (UInt8.lt_asymm h1), if_pos h1, if_pos h1]; rfl
    · by_cases h2 : y < x
      · rw [if_pos h2, if_neg h1, if_pos h2]
      · rw [if_neg h2, if_neg h1, if_neg h1, if_neg h2, cmpB_swap a b]
theorem cmpB_trans : ∀ a b c : List UInt8, compareBytes a b < 0 → compareBytes b c < 0 → compareBytes a c < 0
  | [], [], _, h, _ => by simp [compareBytes] at h
  | [], _ :: _, [], _, h => by simp [compareBytes] at h
  | [], _ :: _, _ :: _, _, _ => by simp [compareBytes]
  | _ :: _, [], _, h, _ => by simp [compareBytes] at h
  | _ :: _, _ :: _, [], _, h => by simp [compareBytes] at h
  | x :: a, y :: b, z :: c, h, k => by
    rw [compareBytes] at h k ⊢
    by_cases h1 : x < y
    · by_cases k1 : y < z
      · rw [if_pos (UInt8.lt_trans h1 k1)]; decide
      · rw [if_neg k1] at k
        by_cases k2 : z < y
        · rw [if_pos k2] at k; simp at k
        · rw [← UInt8.le_antisymm (UInt8.not_lt.1 k2) (UInt8.not_lt.1 k1), if_pos h1]; decide
    · rw [if_neg h1] at h
      by_cases h2 : y < x
      · rw [if_pos h2] at h; simp at h
      · rw [if_neg h2] at h
        rw [UInt8.le_antisymm (UInt8.not_lt.1 h2) (UInt8.not_lt.1 h1)]
        by_cases k1 : y < z
        · rw [if_pos k1]; decide
        · rw [if_neg k1] at k
          by_cases k2 : z < y
          · rw [if_pos k2] at k; simp at k
          · rw [if_neg k2] at k
            rw [if_neg k1, if_neg k2]
            exact cmpB_trans a b c h k
def cmpT (d e : Ed) : Int := compareBytes d.s.data.toList e.s.data.toList
/-- The order: by place, by length, by text. -/
def cmpE (d e : Ed) : Int := if compareInt d.p e.p ≠ 0 then compareInt d.p e.p else if compareInt d.n e.n ≠ 0 then compareInt d.n e.n else cmpT d e
def ltE (d e : Ed) : Bool := decide (cmpE d e < 0)
theorem ltE_iff {d e : Ed} : ltE d e = true ↔ d.p < e.p ∨ (d.p = e.p ∧ (d.n < e.n ∨ (d.n = e.n ∧ cmpT d e < 0))) := by
  rw [ltE, decide_eq_true_eq, cmpE]
  unfold compareInt
  rcases Int.lt_trichotomy d.p e.p with h | h | h
  · simp [h]
  · rcases Int.lt_trichotomy d.n e.n with k | k | k
    · simp [h, k]
    · simp [h, k]
    · have k' : ¬ d.n < e.n := by omega
      have k2 : ¬ d.n = e.n := by omega
      simp [h, k, k', k2]
  · have h' : ¬ d.p < e.p := by omega
    have h2 : ¬ d.p = e.p := by omega
    simp [h, h', h2]
theorem cmpT_swap (d e : Ed) : cmpT e d = - cmpT d e := cmpB_swap _ _
theorem ltE_irrefl (d : Ed) : ltE d d = false := by
  cases h : ltE d d with
  | false => rfl
  | true => have := ltE_iff.1 h; have e : cmpT d d = 0 := cmpB_self _; omega
theorem ltE_trans {c d e : Ed} (h : ltE c d = true) (k : ltE d e = true) : ltE c e = true := by
  rw [ltE_iff] at *
  rcases h with h | ⟨h, h1 | ⟨h1, h2⟩⟩ <;> rcases k with k | ⟨k, k1 | ⟨k1, k2⟩⟩
  · left; omega
  · left; omega
  · left; omega
  · left; omega
  · right; exact ⟨by omega, .inl (by omega)⟩
  · right; exact ⟨by omega, .inl (by omega)⟩
  · left; omega
  · right; exact ⟨by omega, .inl (by omega)⟩
  · right; exact ⟨by omega, .inr ⟨by omega, cmpB_trans _ _ _ h2 k2⟩⟩
theorem ltE_total {d e : Ed} (h : ltE d e = false) (k : ltE e d = false) : d = e := by
  have h' : ¬ ltE d e = true := by rw [h]; simp
  have k' : ¬ ltE e d = true := by rw [k]; simp
  rw [ltE_iff] at h' k'
  have sw := cmpT_swap d e
  have e1 : d.p = e.p := by omega
  have e2 : d.n = e.n := by omega
  have e3 : cmpT d e = 0 := by
    have a1 : ¬ cmpT d e < 0 := fun hh => h' (.inr ⟨e1, .inr ⟨e2, hh⟩⟩)
    have a2 : ¬ cmpT e d < 0 := fun hh => k' (.inr ⟨e1.symm, .inr ⟨e2.symm, hh⟩⟩)
    omega
  obtain ⟨p, n, ⟨⟨s⟩⟩⟩ := d
  obtain ⟨q, m, ⟨⟨t⟩⟩⟩ := e
  have e4 := cmpB_zero _ _ e3
  simp only at e1 e2 e4
  subst e1 e2 e4
  rfl
theorem ltE_ntrans {c d e : Ed} (h : ltE c d = false) (k : ltE d e = false) : ltE c e = false := by
  cases hh : ltE c e with
  | false => rfl
  | true =>
    cases h2 : ltE d c with
    | true => rw [ltE_trans h2 hh] at k; cases k
    | false => rw [ltE_total h h2, k] at hh; cases hh
theorem ltE_asymm {d e : Ed} (h : ltE d e = true) : ltE e d = false := by
  cases k : ltE e d with
  | false => rfl
  | true => have := ltE_trans h k; rw [ltE_irrefl] at this; cases this
theorem swoE : SWO ltE where
  irrefl := ltE_irrefl
  trans _ _ _ := ltE_trans
  ntrans _ _ _ := ltE_ntrans
/-- The other way round. -/
theorem swoF : SWO (fun d e => ltE e d) where
  irrefl := ltE_irrefl
  trans _ _ _ h k := ltE_trans k h
  ntrans _ _ _ h k := ltE_ntrans k h
/-- None behind is less than one ahead. -/
def Srt (L : List Ed) : Prop := L.Pairwise fun d e => ltE e d = false
/-- Each one is less than all behind it. -/
def Up (L : List Ed) : Prop := L.Pairwise fun d e => ltE d e = true
theorem Srt.unique : ∀ {A B : List Ed}, A.Perm B → Srt A → Srt B → A = B
  | [], B, h, _, _ => (List.Perm.nil_eq h)
  | a :: A, [], h, _, _ => (List.Perm.eq_nil h)
  | a :: A, b :: B, h, ha, hb => by
    have e : a = b := by
      rcases List.mem_cons.1 (h.mem_iff.1 (List.mem_cons_self)) with h1 | h1
      · exact h1
      · rcases List.mem_cons.1 (h.mem_iff.2 (List.mem_cons_self (a := b) (l := B))) with h2 | h2
        · exact h2.symm
        · exact ltE_total ((List.pairwise_cons.1 hb).1 a h1) ((List.pairwise_cons.1 ha).1 b h2)
    subst e
    rw [Srt.unique (List.perm_cons a |>.1 h) (List.pairwise_cons.1 ha).2 (List.pairwise_cons.1 hb).2]
theorem Up.srt {L : List Ed} (h : Up L) : Srt L := h.imp ltE_asymm
theorem Up.unique : ∀ {A B : List Ed}, (∀ x, x ∈ A ↔ x ∈ B) → Up A → Up B → A = B
  | [], [], _, _, _ => rfl
  | [], b :: B, h, _, _ => absurd ((h b).2 List.mem_cons_self) (by simp)
  | a :: A, [], h, _, _ => absurd ((h a).1 List.mem_cons_self) (by simp)
  | a :: A, b :: B, h, ha, hb => by
    have ha' := List.pairwise_cons.1 ha
    have hb' := List.pairwise_cons.1 hb
    have e : a = b := by
      rcases List.mem_cons.1 ((h a).1 List.mem_cons_self) with h1 | h1
      · exact h1
      · rcases List.mem_cons.1 ((h b).2 List.mem_cons_self) with h2 | h2
        · exact h2.symm
        · have := ltE_asymm (ha'.1 b h2); rw [hb'.1 a h1] at this; cases this
    subst e
    rw [Up.unique (A := A) (B := B) (fun x => ?_) ha'.2 hb'.2]
    constructor
    · intro hx
      rcases List.mem_cons.1 ((h x).1 (List.mem_cons_of_mem _ hx)) with h1 | h1
      · subst h1; have := ha'.1 x hx; rw [ltE_irrefl] at this; cases this
      · exact h1
    · intro hx
      rcases List.mem_cons.1 ((h x).2 (List.mem_cons_of_mem _ hx)) with h1 | h1
      · subst h1; have := hb'.1 x hx; rw [ltE_irrefl] at this; cases this
      · exact h1
/-- One more, where it belongs. -/
def ins (e : Ed) : List Ed → List Ed
  | [] => [e]
  | d :: L => if ltE e d then e :: d :: L else d :: ins e L
theorem ins_perm (e : Ed) : ∀ L : List Ed, (ins e L).Perm (e :: L)
  | [] => .refl _
  | d :: L => by
    rw [ins]
    split
    · exact .refl _
    · exact ((ins_perm e L).cons d).trans (.swap e d L)
theorem ins_srt (e : Ed) : ∀ {L : List Ed}, Srt L → Srt (ins e L)
  | [], _ => List.pairwise_singleton _ _
  | d :: L, h => by
    have h' := List.pairwise_cons.1 h
    rw [ins]
    split
    · rename_i hlt
      refine List.pairwise_cons.2 ⟨fun x hx => ?_, h⟩
      rcases List.mem_cons.1 hx with rfl | hx
      · exact ltE_asymm hlt
      · exact ltE_ntrans (h'.1 x hx) (ltE_asymm hlt)
    · rename_i hlt
      refine List.pairwise_cons.2 ⟨fun x hx => ?_, ins_srt e h'.2⟩
      rcases List.mem_cons.1 ((ins_perm e L).mem_iff.1 hx) with rfl | hx
      · simpa using hlt
      · exact h'.1 x hx
/-- All, in order. -/
def srt (L : List Ed) : List Ed := L.foldr ins []
theorem srt_srt : ∀ L : List Ed, Srt (srt L)
  | [] => List.Pairwise.nil
  | d :: L => ins_srt d (srt_srt L)
theorem srt_perm : ∀ L : List Ed, (srt L).Perm L
  | [] => .refl _
  | d :: L => (ins_perm d (srt L)).trans ((srt_perm L).cons d)
theorem srt_of {A L : List Ed} (h : A.Perm L) (k : Srt A) : srt L = A := Srt.unique ((srt_perm L).trans h.symm) (srt_srt L) k
theorem srt_len (L : List Ed) : (srt L).length = L.length := (srt_perm L).length_eq
/-- Where it was put in from behind: the result is in order. -/
theorem srt_at {L : List Ed} {e : Ed} {k : Nat} (h : Srt L) (hb : ∀ x ∈ L.drop k, ltE e x = true) (ha : ∀ x, L[k - 1]? = some x → 0 < k → ltE e x = false) (hk : k ≤ L.length) : Srt (L.take k ++ e :: L.drop k) := by
  refine List.pairwise_append.2 ⟨h.sublist (List.take_sublist _ _), List.pairwise_cons.2 ⟨fun x hx => ltE_asymm (hb x hx), h.sublist (List.drop_sublist _ _)⟩, fun a hA b hB => ?_⟩
  rcases List.mem_cons.1 hB with rfl | hB
  · obtain ⟨i, hi, rfl⟩ := List.mem_iff_getElem.1 hA
    have hi' : i < k := by simp at hi; omega
    rw [List.getElem_take]
    have hl := ha (L[k - 1]'(by omega)) (List.getElem?_eq_getElem (by omega)) (by omega)
    by_cases c : i = k - 1
    · subst c; exact hl
    · exact ltE_ntrans hl (List.pairwise_iff_getElem.1 h i (k - 1) (by omega) (by omega) (by omega))
  · have := List.take_append_drop k L
    rw [← this] at h
    exact (List.pairwise_append.1 h).2.2 a hA b hB
theorem perm_at (L : List Ed) (e : Ed) (k : Nat) : (L.take k ++ e :: L.drop k).Perm (L ++ [e]) := by
  refine List.perm_middle.trans ?_
  rw [List.take_append_drop]
  exact (List.perm_append_comm (l₁ := [e]) (l₂ := L))
/-- In order, each once. -/
def once (L : List Ed) : List Ed := compact (srt L)
theorem compact_succ (L : List Ed) : ∀ m, m ≤ L.length → (∀ x, x ∈ compactUpTo L.toArray m ↔ x ∈ L.take m)
  | 0, _ => fun x => by simp [compactUpTo]
  | m + 1, h => fun x => by
    have ih := compact_succ L m (by omega)
    rw [compactUpTo_succ, List.mem_append, ih, List.take_succ_eq_append_getElem (by omega), List.mem_append]
    have hg : L.toArray[m]! = L[m] := by simp [getElem!_pos, show m < L.length by omega]
    by_cases hk : keeps L.toArray m = true
    · rw [if_pos hk, hg]
    · rw [if_neg hk]
      have : ¬ (m = 0 ∨ L.toArray[m]! ≠ L.toArray[m - 1]!) := by simpa [keeps] using hk
      have hm : 0 < m := by omega
      have he : L[m] = L[m - 1] := by
        have : L.toArray[m]! = L.toArray[m - 1]! := by
          refine Decidable.byContradiction fun hne => this (.inr hne)
        rw [hg] at this
        rw [this]
        simp [getElem!_pos, show m - 1 < L.length by omega]
      constructor
      · rintro (h1 | h1)
        · exact .inl h1
        · cases h1
      · rintro (h1 | h1)
        · exact .inl h1
        · rw [List.mem_singleton, he] at h1
          subst h1
          exact .inl (List.mem_iff_getElem.2 ⟨m - 1, by simp; omega, by simp⟩)
theorem compact_up {L : List Ed} (h : Srt L) : ∀ m, m ≤ L.length → Up (compactUpTo L.toArray m)
  | 0, _ => by simp [compactUpTo, Up]
  | m + 1, hm => by
    have ih := compact_up h m (by omega)
    rw [compactUpTo_succ]
    have hg : L.toArray[m]! = L[m] := by simp [getElem!_pos, show m < L.length by omega]
    by_cases hk : keeps L.toArray m = true
    · rw [if_pos hk, hg]
      refine List.pairwise_append.2 ⟨ih, List.pairwise_singleton _ _, fun a ha b hb => ?_⟩
      rw [List.mem_singleton] at hb
      subst hb
      have ha' := (compact_succ L m (by omega) a).1 ha
      obtain ⟨i, hi, rfl⟩ := List.mem_iff_getElem.1 ha'
      have hi' : i < m := by simp at hi; omega
      rw [List.getElem_take]
      have hp : keeps L.toArray m = true := hk
      have hne : L[m] ≠ L[m - 1] := by
        have : m = 0 ∨ L.toArray[m]! ≠ L.toArray[m - 1]! := by simpa [keeps] using hp
        rcases this with h0 | h0
        · omega
        · rw [hg] at h0
          intro he
          apply h0
          rw [he]
          simp [getElem!_pos, show m - 1 < L.length by omega]
      have s1 : ltE L[m] L[m - 1] = false := List.pairwise_iff_getElem.1 h (m - 1) m (by omega) (by omega) (by omega)
      have s2 : ltE L[m - 1] L[m] = true := by
        cases c : ltE L[m - 1] L[m] with
        | true => rfl
        | false => exact absurd (ltE_total s1 c) hne
      by_cases c : i = m - 1
      · subst c; exact s2
      · have s3 : ltE L[m - 1] L[i] = false := List.pairwise_iff_getElem.1 h i (m - 1) (by omega) (by omega) (by omega)
        cases c : ltE L[i] L[m] with
        | true => rfl
        | false => rw [ltE_ntrans s3 c] at s2; cases s2
    · rw [if_neg hk, List.append_nil]; exact ih
theorem once_mem (L : List Ed) (x : Ed) : x ∈ once L ↔ x ∈ L := by
  rw [once, compact, compact_succ _ _ (Nat.le_refl _), List.take_length, (srt_perm L).mem_iff]
theorem once_up (L : List Ed) : Up (once L) := compact_up (srt_srt L) _ (Nat.le_refl _)
/-- Whatever came, if it has the same members as a list that goes up: that list. -/
theorem once_of {A L : List Ed} (h : ∀ x, x ∈ L ↔ x ∈ A) (k : Up A) : once L = A := Up.unique (fun x => (once_mem L x).trans (h x)) (once_up L) k
theorem once_len (L : List Ed) : (once L).length ≤ L.length := by
  rw [once, compact, compactUpTo, List.length_map]
  refine Nat.le_trans (List.length_filter_le _ _) ?_
  rw [List.length_range, srt_len]
  exact Nat.le_refl _
/-- Edits that may be go up. -/
theorem may_up {L : List Ed} {z : Int} (h : mayB L z = true) : Up L := by
  refine List.pairwise_iff_getElem.2 fun i j hi hj hij => ?_
  have key : ∀ j, i < j → (hj : j < L.length) → L[i].p < L[j].p := by
    intro j
    induction j with
    | zero => intro h; omega
    | succ j ih =>
      intro hij hj
      have g := gapE_iff.1 ((mayK_at hj h).2 (by omega))
      have o := okE_iff.1 (mayK_at (show j < L.length by omega) h).1
      simp only [List.getD, List.getElem?_eq_getElem hj, List.getElem?_eq_getElem (show j < L.length by omega), Nat.add_sub_cancel, Option.getD_some] at g o
      by_cases c : i = j
      · subst c; exact g.1
      · exact Int.lt_trans (ih (by omega) (by omega)) g.1
  exact ltE_iff.2 (.inl (key j hij hj))
end Go.Proofs.Ytpjpghigilbfaaa

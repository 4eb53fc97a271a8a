/-
  Edits of a text: which may be, and what comes of them. No program.
-/
import Derived.Test.YtpjpghigilbfaaaByte
namespace Go.Proofs.Ytpjpghigilbfaaa
/-- An edit: where, how many bytes, what stands there then. -/
structure Ed where
  p : Int
  n : Int
  s : ByteArray
def ed0 : Ed := ⟨0, 0, ⟨#[]⟩⟩
/-- An edit of a text of z bytes. -/
def okE (z : Int) (e : Ed) : Bool := decide (0 ≤ e.p) && decide (0 ≤ e.n) && decide (e.p ≤ z) && decide (e.n ≤ z - e.p)
/-- Two one behind the other. -/
def gapE (d e : Ed) : Bool := decide (d.p < e.p) && decide (d.n < e.p - d.p)
/-- The first k of them may be. -/
def mayK (l : List Ed) (z : Int) : Nat → Bool
  | 0 => true
  | k + 1 => mayK l z k && okE z (l.getD k ed0) && (k == 0 || gapE (l.getD (k - 1) ed0) (l.getD k ed0))
def mayB (l : List Ed) (z : Int) : Bool := mayK l z l.length
theorem okE_iff {z : Int} {e : Ed} : okE z e = true ↔ 0 ≤ e.p ∧ 0 ≤ e.n ∧ e.p ≤ z ∧ e.n ≤ z - e.p := by simp [okE, and_assoc]
theorem gapE_iff {d e : Ed} : gapE d e = true ↔ d.p < e.p ∧ d.n < e.p - d.p := by simp [gapE]
theorem mayK_le {l : List Ed} {z : Int} : ∀ {k m : Nat}, k ≤ m → mayK l z m = true → mayK l z k = true
  | k, 0, h, hm => by obtain rfl : k = 0 := by omega
                      exact hm
  | k, m + 1, h, hm => by
    rcases Nat.lt_or_ge k (m + 1) with h1 | h1
    · rw [mayK, Bool.and_eq_true, Bool.and_eq_true] at hm
      exact mayK_le (by omega) hm.1.1
    · obtain rfl : k = m + 1 := by omega
      exact hm
theorem mayK_at {l : List Ed} {z : Int} {k m : Nat} (h : k < m) (hm : mayK l z m = true) : okE z (l.getD k ed0) = true ∧ (0 < k → gapE (l.getD (k - 1) ed0) (l.getD k ed0) = true) := by
  have := mayK_le (show k + 1 ≤ m from h) hm
  rw [mayK, Bool.and_eq_true, Bool.and_eq_true, Bool.or_eq_true] at this
  refine ⟨this.1.2, fun h0 => ?_⟩
  rcases this.2 with h1 | h1
  · simp at h1; omega
  · exact h1
/-- Not one of the first k alone. -/
theorem mayK_not {l : List Ed} {z : Int} {k m : Nat} (h : k ≤ m) (hk : mayK l z k = false) : mayK l z m = false := by
  cases hm : mayK l z m with
  | false => rfl
  | true => rw [mayK_le h hm] at hk; cases hk
/-- Behind the first k: where the text goes on. -/
def atK (l : List Ed) : Nat → Nat
  | 0 => 0
  | k + 1 => ((l.getD k ed0).p + (l.getD k ed0).n).toNat
/-- What has come of the text by the first k. -/
def outK (s : ByteArray) (l : List Ed) : Nat → ByteArray
  | 0 => ⟨#[]⟩
  | k + 1 => outK s l k ++ (s.extract (atK l k) (l.getD k ed0).p.toNat ++ (l.getD k ed0).s)
def appS (s : ByteArray) (l : List Ed) : ByteArray := outK s l l.length ++ s.extract (atK l l.length) s.size
theorem atK_le {l : List Ed} {z : Nat} : ∀ {k : Nat}, mayK l z k = true → atK l k ≤ z
  | 0, _ => Nat.zero_le _
  | k + 1, h => by
    have := okE_iff.1 (mayK_at (Nat.lt_succ_self k) h).1
    rw [atK]; omega
/-- The next one begins there or behind it. -/
theorem atK_next {l : List Ed} {z : Nat} {k : Nat} (h : mayK l z (k + 1) = true) : (atK l k : Int) ≤ (l.getD k ed0).p := by
  have h1 := okE_iff.1 (mayK_at (Nat.lt_succ_self k) h).1
  cases k with
  | zero => rw [atK]; omega
  | succ k =>
    have h2 := gapE_iff.1 ((mayK_at (Nat.lt_succ_self (k + 1)) h).2 (by omega))
    have h3 := okE_iff.1 (mayK_at (show k < k + 1 + 1 by omega) h).1
    simp only [Nat.add_sub_cancel] at h2
    rw [atK]; omega
theorem outK_size {s : ByteArray} {l : List Ed} {B : Nat} (hB : ∀ e ∈ l, e.s.size ≤ B) : ∀ {k : Nat}, k ≤ l.length → mayK l s.size k = true → (outK s l k).size ≤ k * (s.size + B)
  | 0, _, _ => Nat.zero_le _
  | k + 1, hk, h => by
    have h0 := outK_size hB (k := k) (by omega) (mayK_le (by omega) h)
    have h1 := okE_iff.1 (mayK_at (Nat.lt_succ_self k) h).1
    have h2 : (l.getD k ed0).s.size ≤ B := by
      have : k < l.length := by omega
      refine hB _ ?_
      simp [List.getD, this]
    rw [outK, ByteArray.size_append, ByteArray.size_append, ByteArray.size_extract, Nat.succ_mul]
    omega
end Go.Proofs.Ytpjpghigilbfaaa

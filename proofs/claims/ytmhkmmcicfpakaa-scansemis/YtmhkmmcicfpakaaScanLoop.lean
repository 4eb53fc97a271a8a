/-
  A text cut into words: one after the other, to the end or the first place where nothing begins. No program.
-/
import Derived.Test.YtmhkmmcicfpakaaScanOne
namespace Go.Proofs.Ytmhkmmcicfpakaa
open Go.RowKit
/-- From x on, as often as f says. -/
def scanL (s : ByteArray) : Nat → Sc → Bool × Sc
  | 0, x => (true, x)
  | f + 1, x => if x.p < s.size then (if (x.one s).1 then scanL s f (x.one s).2 else (false, (x.one s).2)) else (true, x)
/-- Where it began: nothing yet. -/
def sc0 : Sc := ⟨0, 1, [], []⟩
/-- What a scanner that has come so far has at most. -/
structure ScOk (s : ByteArray) (x : Sc) : Prop where
  p : x.p ≤ s.size
  l : x.l.length ≤ x.p
  c : x.c.length ≤ x.p
  line : x.line ≤ x.p + 1
theorem sc0_ok (s : ByteArray) : ScOk s sc0 := ⟨Nat.zero_le _, Nat.le_refl _, Nat.le_refl _, Nat.le_refl _⟩
theorem ScOk.one {s : ByteArray} {x : Sc} (h : ScOk s x) (hp : x.p < s.size) (ho : (x.one s).1 = true) : ScOk s (x.one s).2 ∧ x.p < (x.one s).2.p := by
  obtain ⟨h1, h2, h3, h4, h5⟩ := one_goes s x hp ho
  have hl := h.l
  have hc := h.c
  have hn := h.line
  exact ⟨⟨h2, by omega, by omega, by omega⟩, h1⟩
theorem scanL_step {s : ByteArray} {f : Nat} {x : Sc} (hp : x.p < s.size) (ho : (x.one s).1 = true) : scanL s (f + 1) x = scanL s f (x.one s).2 := by
  rw [scanL, if_pos hp, if_pos ho]
theorem scanL_stop {s : ByteArray} {f : Nat} {x : Sc} (hp : x.p < s.size) (ho : (x.one s).1 = false) : scanL s (f + 1) x = (false, (x.one s).2) := by
  rw [scanL, if_pos hp, if_neg (by rw [ho]; decide)]
theorem scanL_end {s : ByteArray} {f : Nat} {x : Sc} (hp : s.size ≤ x.p) : scanL s f x = (true, x) := by
  cases f with
  | zero => rfl
  | succ f => rw [scanL, if_neg (by omega)]
/-- More rounds than bytes turn nothing. -/
theorem scanL_more {s : ByteArray} : ∀ (f g : Nat) (x : Sc), ScOk s x → s.size - x.p ≤ f → s.size - x.p ≤ g → scanL s f x = scanL s g x := by
  intro f
  induction f with
  | zero => intro g x _ hf _; rw [scanL_end (by omega), scanL_end (by omega)]
  | succ f ih =>
    intro g x hx hf hg
    by_cases hp : x.p < s.size
    · obtain ⟨g', rfl⟩ : ∃ g', g = g' + 1 := ⟨g - 1, by omega⟩
      cases ho : (x.one s).1 with
      | true =>
        obtain ⟨h1, h2⟩ := hx.one hp ho
        rw [scanL_step hp ho, scanL_step hp ho]
        exact ih g' _ h1 (by omega) (by omega)
      | false => rw [scanL_stop hp ho, scanL_stop hp ho]
    · rw [scanL_end (by omega), scanL_end (by omega)]
/-- What a text is cut into; fl: the first fault of another kind, or below nought. -/
def scanR (s : ByteArray) (fl : Int) : List Tk × List Cm × Int :=
  if (scanL s s.size sc0).1 then
    (if 0 ≤ fl then ([], [], fl) else ((scanL s s.size sc0).2.semi.l ++ [⟨7, ⟨#[]⟩, s.size, (scanL s s.size sc0).2.line, false⟩], (scanL s s.size sc0).2.c, -1))
  else ([], [], if fl < 0 ∨ ((scanL s s.size sc0).2.p : Int) < fl then ((scanL s s.size sc0).2.p : Int) else fl)
end Go.Proofs.Ytmhkmmcicfpakaa

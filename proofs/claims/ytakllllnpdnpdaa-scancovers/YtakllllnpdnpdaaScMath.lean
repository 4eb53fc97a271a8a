/-
  A text cut into words: what begins at a place, one after the other. No program.
-/
import Derived.Test.YtakllllnpdnpdaaOwnTok
import Derived.Test.YtakllllnpdnpdaaNameMath
import Derived.Test.YtakllllnpdnpdaaByte
namespace Go.Proofs.Ytakllllnpdnpdaa
open Go.RowKit
set_option linter.unusedSimpArgs false
set_option linter.unusedVariables false
/-- A token from where it stands to t. -/
def Sc.add (s : ByteArray) (x : Sc) (k : Int) (t : Nat) : Sc := ⟨t, x.line, x.l ++ [⟨k, s.extract x.p t, x.p, x.line, false⟩], x.c⟩
/-- What ends a line may make a semicolon. -/
def Sc.semi (x : Sc) : Sc := match x.l.getLast? with
  | none => x
  | some t => if endB t then ⟨x.p, x.line, x.l ++ [⟨6, ⟨#[59]⟩, x.p, x.line, true⟩], x.c⟩ else x
theorem semi_nil (p line : Nat) (c : List Cm) : Sc.semi ⟨p, line, [], c⟩ = ⟨p, line, [], c⟩ := rfl
theorem semi_off (p line : Nat) (l : List Tk) (t : Tk) (c : List Cm) (h : endB t = false) : Sc.semi ⟨p, line, l ++ [t], c⟩ = ⟨p, line, l ++ [t], c⟩ := by
  simp [Sc.semi, h]
theorem semi_on (p line : Nat) (l : List Tk) (t : Tk) (c : List Cm) (h : endB t = true) : Sc.semi ⟨p, line, l ++ [t], c⟩ = ⟨p, line, (l ++ [t]) ++ [⟨6, ⟨#[59]⟩, p, line, true⟩], c⟩ := by
  simp [Sc.semi, h]
def nlF (s : ByteArray) : Nat → Nat → Nat
  | 0, a => a
  | f + 1, a => if a < s.size ∧ byteAt s a ≠ 10 then nlF s f (a + 1) else a
/-- The first newline from a on, or the end. -/
def nlN (s : ByteArray) (a : Nat) : Nat := nlF s (s.size - a) a
theorem nlN_step {s : ByteArray} {a : Nat} (h : a < s.size) (hc : byteAt s a ≠ 10) : nlN s a = nlN s (a + 1) := by
  unfold nlN
  obtain ⟨k, hk⟩ : ∃ k, s.size - a = k + 1 := ⟨s.size - a - 1, by omega⟩
  rw [hk, show s.size - (a + 1) = k by omega, nlF, if_pos ⟨h, hc⟩]
theorem nlN_stop {s : ByteArray} {a : Nat} (hc : byteAt s a = 10) : nlN s a = a := by
  unfold nlN
  cases s.size - a with
  | zero => rfl
  | succ k => rw [nlF, if_neg (fun h => h.2 hc)]
theorem nlN_end {s : ByteArray} {a : Nat} (h : s.size ≤ a) : nlN s a = a := by
  unfold nlN
  rw [show s.size - a = 0 by omega, nlF]
theorem nlF_range (s : ByteArray) : ∀ (f a : Nat), a + f = s.size → a ≤ nlF s f a ∧ nlF s f a ≤ s.size := by
  intro f
  induction f with
  | zero => intro a h; simp only [nlF]; omega
  | succ f ih =>
    intro a h
    rw [nlF]
    split
    · have := ih (a + 1) (by omega); omega
    · omega
theorem nlN_range {s : ByteArray} {a : Nat} (h : a ≤ s.size) : a ≤ nlN s a ∧ nlN s a ≤ s.size := nlF_range s _ _ (by omega)
/-- A comment from where it stands. -/
def Sc.com (s : ByteArray) (x : Sc) : Sc := ⟨nlN s x.p, x.line, x.semi.l, x.c ++ [⟨s.extract x.p (nlN s x.p), x.p, x.line, x.semi.l.length⟩]⟩
def Sc.isCom (s : ByteArray) (x : Sc) : Bool := decide (x.p + 1 < s.size) && decide (byteAt s (x.p + 1) = 47)
def Sc.comment (s : ByteArray) (x : Sc) : Sc := if x.isCom s then x.com s else x
theorem semi_rest (x : Sc) : x.semi.p = x.p ∧ x.semi.line = x.line ∧ x.semi.c = x.c ∧ x.semi.l.length ≤ x.l.length + 1 := by
  unfold Sc.semi
  split
  · exact ⟨rfl, rfl, rfl, by omega⟩
  · split
    · exact ⟨rfl, rfl, rfl, by simp⟩
    · exact ⟨rfl, rfl, rfl, by omega⟩
/-- A byte of a number, or of a word. -/
def clsB (wd : Bool) (c : Nat) : Bool := digB c || (wd && letB c)
def toF (s : ByteArray) (wd : Bool) : Nat → Nat → Nat
  | 0, a => a
  | f + 1, a => if a < s.size ∧ clsB wd (byteAt s a) = true then toF s wd f (a + 1) else a
/-- The first place from a on whose byte is none. -/
def toN (s : ByteArray) (wd : Bool) (a : Nat) : Nat := toF s wd (s.size - a) a
theorem toN_step {s : ByteArray} {wd : Bool} {a : Nat} (h : a < s.size) (hc : clsB wd (byteAt s a) = true) : toN s wd a = toN s wd (a + 1) := by
  unfold toN
  obtain ⟨k, hk⟩ : ∃ k, s.size - a = k + 1 := ⟨s.size - a - 1, by omega⟩
  rw [hk, show s.size - (a + 1) = k by omega, toF, if_pos ⟨h, hc⟩]
theorem toN_stop {s : ByteArray} {wd : Bool} {a : Nat} (hc : clsB wd (byteAt s a) = false) : toN s wd a = a := by
  unfold toN
  cases s.size - a with
  | zero => rfl
  | succ k => rw [toF, if_neg (fun h => by rw [hc] at h; cases h.2)]
theorem toN_end {s : ByteArray} {wd : Bool} {a : Nat} (h : s.size ≤ a) : toN s wd a = a := by
  unfold toN
  rw [show s.size - a = 0 by omega, toF]
theorem toF_range (s : ByteArray) (wd : Bool) : ∀ (f a : Nat), a + f = s.size → a ≤ toF s wd f a ∧ toF s wd f a ≤ s.size := by
  intro f
  induction f with
  | zero => intro a h; simp only [toF]; omega
  | succ f ih =>
    intro a h
    rw [toF]
    split
    · have := ih (a + 1) (by omega); omega
    · omega
theorem toN_range {s : ByteArray} {wd : Bool} {a : Nat} (h : a ≤ s.size) : a ≤ toN s wd a ∧ toN s wd a ≤ s.size := toF_range s wd _ _ (by omega)
def qF (s : ByteArray) : Nat → Nat → Nat
  | 0, a => a
  | f + 1, a => if a < s.size ∧ byteAt s a ≠ 34 ∧ byteAt s a ≠ 10 then qF s f (a + 1) else a
/-- The first quote or newline from a on, or the end. -/
def qN (s : ByteArray) (a : Nat) : Nat := qF s (s.size - a) a
theorem qN_step {s : ByteArray} {a : Nat} (h : a < s.size) (hc : byteAt s a ≠ 34) (hd : byteAt s a ≠ 10) : qN s a = qN s (a + 1) := by
  unfold qN
  obtain ⟨k, hk⟩ : ∃ k, s.size - a = k + 1 := ⟨s.size - a - 1, by omega⟩
  rw [hk, show s.size - (a + 1) = k by omega, qF, if_pos ⟨h, hc, hd⟩]
theorem qN_stop {s : ByteArray} {a : Nat} (hc : byteAt s a = 34 ∨ byteAt s a = 10) : qN s a = a := by
  unfold qN
  cases s.size - a with
  | zero => rfl
  | succ k => rw [qF, if_neg (fun h => by rcases hc with hc | hc; exact h.2.1 hc; exact h.2.2 hc)]
theorem qN_end {s : ByteArray} {a : Nat} (h : s.size ≤ a) : qN s a = a := by
  unfold qN
  rw [show s.size - a = 0 by omega, qF]
theorem qF_ge (s : ByteArray) : ∀ (f a : Nat), a ≤ qF s f a := by
  intro f
  induction f with
  | zero => intro a; exact Nat.le_refl _
  | succ f ih =>
    intro a
    rw [qF]
    split
    · have := ih (a + 1); omega
    · omega
theorem qN_ge (s : ByteArray) (a : Nat) : a ≤ qN s a := qF_ge s _ a
/-- A string is shut. -/
def strB (s : ByteArray) (p : Nat) : Bool := decide (qN s (p + 1) < s.size) && decide (byteAt s (qN s (p + 1)) = 34)
theorem strB_at {s : ByteArray} {p k : Nat} (h : qN s (p + 1) = k) : strB s p = (decide (k < s.size) && decide (byteAt s k = 34)) := by rw [strB, h]
/-- A number may be. -/
def numB (s : ByteArray) (p : Nat) : Bool := decide (toN s false p - p ≤ 12) && !(decide (1 < toN s false p - p) && decide (byteAt s p = 48)) && !(decide (toN s false p < s.size) && letB (byteAt s (toN s false p)))
/-- How long the operator is that begins there. -/
def opN (s : ByteArray) (p : Nat) : Nat := if decide (p + 2 ≤ s.size) && isOp (s.extract p (p + 2)) then 2 else if isOp (s.extract p (p + 1)) then 1 else 0
/-- What begins where it stands: whether something does, and what is then. -/
def Sc.one (s : ByteArray) (x : Sc) : Bool × Sc :=
  if byteAt s x.p = 32 ∨ byteAt s x.p = 9 then (true, ⟨x.p + 1, x.line, x.l, x.c⟩)
  else if byteAt s x.p = 10 then (true, ⟨x.p + 1, x.line + 1, x.semi.l, x.c⟩)
  else if byteAt s x.p = 59 then (true, x.add s 6 (x.p + 1))
  else if byteAt s x.p = 47 then (x.isCom s, x.comment s)
  else if byteAt s x.p = 34 then (strB s x.p, if strB s x.p then x.add s 3 (qN s (x.p + 1) + 1) else x)
  else if digB (byteAt s x.p) then (numB s x.p, if numB s x.p then x.add s 2 (toN s false x.p) else x)
  else if letB (byteAt s x.p) then (decide (toN s true x.p - x.p ≤ 24), if toN s true x.p - x.p ≤ 24 then x.add s (if isKey (s.extract x.p (toN s true x.p)) then 5 else 1) (toN s true x.p) else x)
  else (decide (opN s x.p ≠ 0), if opN s x.p ≠ 0 then x.add s 4 (x.p + opN s x.p) else x)
/-- It goes on, within its text, and makes at most two tokens and one comment. -/
theorem one_goes (s : ByteArray) (x : Sc) (hp : x.p < s.size) (h : (x.one s).1 = true) : x.p < (x.one s).2.p ∧ (x.one s).2.p ≤ s.size ∧ (x.one s).2.l.length ≤ x.l.length + 1 ∧ (x.one s).2.c.length ≤ x.c.length + 1 ∧ (x.one s).2.line ≤ x.line + 1 := by
  have hsr := semi_rest x
  have hnl := nlN_range (s := s) (a := x.p) (by omega)
  have ht := toN_range (s := s) (wd := false) (a := x.p) (by omega)
  have hu := toN_range (s := s) (wd := true) (a := x.p) (by omega)
  revert h
  unfold Sc.one
  split
  · intro _; exact ⟨by simp, by simp; omega, by simp, by simp, by simp⟩
  split
  · intro _; exact ⟨by simp, by simp; omega, by simpa using hsr.2.2.2, by simp, by simp⟩
  split
  · intro _; exact ⟨by simp [Sc.add], by simp [Sc.add]; omega, by simp [Sc.add], by simp [Sc.add], by simp [Sc.add]⟩
  split
  · rename_i h47
    intro h
    have hc : x.comment s = x.com s := by rw [Sc.comment, if_pos h]
    dsimp only
    rw [hc]
    refine ⟨?_, hnl.2, hsr.2.2.2, by simp [Sc.com], by simp [Sc.com]⟩
    show x.p < nlN s x.p
    rw [nlN_step hp (by omega)]
    have := (nlN_range (s := s) (a := x.p + 1) (by omega)).1
    omega
  split
  · intro h
    dsimp only at h ⊢
    rw [if_pos h]
    have hq : qN s (x.p + 1) < s.size := by
      rw [strB, Bool.and_eq_true, decide_eq_true_eq] at h
      exact h.1
    have hq2 : x.p + 1 ≤ qN s (x.p + 1) := qN_ge s _
    exact ⟨by simp [Sc.add]; omega, by simp [Sc.add]; omega, by simp [Sc.add], by simp [Sc.add], by simp [Sc.add]⟩
  split
  · rename_i hd
    intro h
    dsimp only at h ⊢
    rw [if_pos h]
    have h1 : toN s false x.p = toN s false (x.p + 1) := toN_step hp (by rw [clsB, hd]; rfl)
    have h2 := (toN_range (s := s) (wd := false) (a := x.p + 1) (by omega)).1
    exact ⟨by simp only [Sc.add]; omega, by simp only [Sc.add]; omega, by simp [Sc.add], by simp [Sc.add], by simp [Sc.add]⟩
  split
  · rename_i hd hl
    intro h
    dsimp only at h ⊢
    rw [if_pos (of_decide_eq_true h)]
    have h1 : toN s true x.p = toN s true (x.p + 1) := toN_step hp (by rw [clsB, hl]; simp)
    have h2 := (toN_range (s := s) (wd := true) (a := x.p + 1) (by omega)).1
    exact ⟨by simp only [Sc.add]; omega, by simp only [Sc.add]; omega, by simp [Sc.add], by simp [Sc.add], by simp [Sc.add]⟩
  · intro h
    dsimp only at h ⊢
    have h := of_decide_eq_true h
    rw [if_pos h]
    have hle : x.p + opN s x.p ≤ s.size := by
      unfold opN
      split
      · rename_i h; rw [Bool.and_eq_true, decide_eq_true_eq] at h; exact h.1
      · split <;> omega
    exact ⟨by simp only [Sc.add]; omega, by simp only [Sc.add]; exact hle, by simp [Sc.add], by simp [Sc.add], by simp [Sc.add]⟩
/-- From x on, as often as f says. -/
def scanL (s : ByteArray) : Nat → Sc → Bool × Sc
  | 0, x => (true, x)
  | f + 1, x => if x.p < s.size then (if (x.one s).1 then scanL s f (x.one s).2 else (false, (x.one s).2)) else (true, x)
/-- Where it began: nothing yet. -/
def sc0 : Sc := ⟨0, 1, [], []⟩
/-- What a scanner that has come so far has at most. -/
structure ScOk (s : ByteArray) (x : Sc) : Prop where
  p : x.p ≤ s.size
  l : x.l.length ≤ x.p
  c : x.c.length ≤ x.p
  line : x.line ≤ x.p + 1
theorem sc0_ok (s : ByteArray) : ScOk s sc0 := ⟨Nat.zero_le _, Nat.le_refl _, Nat.le_refl _, Nat.le_refl _⟩
theorem ScOk.one {s : ByteArray} {x : Sc} (h : ScOk s x) (hp : x.p < s.size) (ho : (x.one s).1 = true) : ScOk s (x.one s).2 ∧ x.p < (x.one s).2.p := by
  obtain ⟨h1, h2, h3, h4, h5⟩ := one_goes s x hp ho
  have hl := h.l
  have hc := h.c
  have hn := h.line
  exact ⟨⟨h2, by omega, by omega, by omega⟩, h1⟩
theorem scanL_step {s : ByteArray} {f : Nat} {x : Sc} (hp : x.p < s.size) (ho : (x.one s).1 = true) : scanL s (f + 1) x = scanL s f (x.one s).2 := by
  rw [scanL, if_pos hp, if_pos ho]
theorem scanL_stop {s : ByteArray} {f : Nat} {x : Sc} (hp : x.p < s.size) (ho : (x.one s).1 = false) : scanL s (f + 1) x = (false, (x.one s).2) := by
  rw [scanL, if_pos hp, if_neg (by rw [ho]; decide)]
theorem scanL_end {s : ByteArray} {f : Nat} {x : Sc} (hp : s.size ≤ x.p) : scanL s f x = (true, x) := by
  cases f with
  | zero => rfl
  | succ f => rw [scanL, if_neg (by omega)]
/-- More rounds than bytes turn nothing. -/
theorem scanL_more {s : ByteArray} : ∀ (f g : Nat) (x : Sc), ScOk s x → s.size - x.p ≤ f → s.size - x.p ≤ g → scanL s f x = scanL s g x := by
  intro f
  induction f with
  | zero => intro g x _ hf _; rw [scanL_end (by omega), scanL_end (by omega)]
  | succ f ih =>
    intro g x hx hf hg
    by_cases hp : x.p < s.size
    · obtain ⟨g', rfl⟩ : ∃ g', g = g' + 1 := ⟨g - 1, by omega⟩
      cases ho : (x.one s).1 with
      | true =>
        obtain ⟨h1, h2⟩ := hx.one hp ho
        rw [scanL_step hp ho, scanL_step hp ho]
        exact ih g' _ h1 (by omega) (by omega)
      | false => rw [scanL_stop hp ho, scanL_stop hp ho]
    · rw [scanL_end (by omega), scanL_end (by omega)]
/-- What a text is cut into; fl: the first fault of another kind, or below nought. -/
def scanR (s : ByteArray) (fl : Int) : List Tk × List Cm × Int :=
  if (scanL s s.size sc0).1 then
    (if 0 ≤ fl then ([], [], fl) else ((scanL s s.size sc0).2.semi.l ++ [⟨7, ⟨#[]⟩, s.size, (scanL s s.size sc0).2.line, false⟩], (scanL s s.size sc0).2.c, -1))
  else ([], [], if fl < 0 ∨ ((scanL s s.size sc0).2.p : Int) < fl then ((scanL s s.size sc0).2.p : Int) else fl)
/-- The first fault, as far as a text's length goes. -/
def bigF (s : ByteArray) (fl : Int) : Int := if 2000 < s.size ∧ (fl < 0 ∨ 2000 < fl) then 2000 else fl
theorem scanR_stop {s : ByteArray} {fb : Int} {x : Sc} (h : scanL s s.size sc0 = (false, x)) : scanR s fb = ([], [], if fb < 0 ∨ (x.p : Int) < fb then (x.p : Int) else fb) := by
  rw [scanR, h]; rfl
theorem scanR_bad {s : ByteArray} {fb : Int} {x : Sc} (h : scanL s s.size sc0 = (true, x)) (hf : 0 ≤ fb) : scanR s fb = ([], [], fb) := by
  rw [scanR, h, if_pos rfl, if_pos hf]
theorem scanR_ok {s : ByteArray} {fb : Int} {x : Sc} (h : scanL s s.size sc0 = (true, x)) (hf : ¬ 0 ≤ fb) : scanR s fb = (x.semi.l ++ [⟨7, ⟨#[]⟩, s.size, x.line, false⟩], x.c, -1) := by
  rw [scanR, h, if_pos rfl, if_neg hf]
/-- What is left when nothing begins: as it was. -/
theorem one_stays (s : ByteArray) (x : Sc) (h : (x.one s).1 = false) : (x.one s).2 = x := by
  revert h
  unfold Sc.one
  repeat' split
  all_goals
    intro h
    dsimp only at h ⊢ <;> first
      | (cases h; done)
      | (rw [Sc.comment, if_neg (by rw [h]; decide)]; done)
      | (exfalso; simp_all; done)
      | rfl
end Go.Proofs.Ytakllllnpdnpdaa

/-
  4 texts in one.
-/
import Derived.Test.YtiknnobgoamgcaaGreatDoorB01
import Derived.Test.YtiknnobgoamgcaaGreatDoorB18
import Derived.Lib.DecodeN
import Derived.WalkKit
import Derived.Lib.OthersKept
import Derived.LoopTactic
import Derived.Deep.LoopGhost
import Derived.Lib.Strings
import Derived.Shelf.Strings.Builder1
import Derived.Shelf.Small.Utf8
import Derived.Shelf.Small.Strs
import Derived.Shelf.Strings.BuilderF
import Derived.Shelf.Strings.BuilderK
import Derived.Shelf.Strings.Search1
import Derived.Shelf.Strings.Search2
import Derived.Shelf.Strings.Cut
import Derived.Shelf.LaysM
import Derived.Shelf.Strings.Shaped
import Derived.Shelf.Strings.Runes
import Derived.Shelf.Strings.IndexAny
import Derived.Shelf.Strings.AsciiSet
import Derived.Shelf.Strings.IndexAnyAll
import Derived.Test.YtiknnobgoamgcaaGreatDoorProg
/-
  A text cut into words: what begins at a place, one after the other. No program.
-/
namespace Go.Proofs.YtiknnobgoamgcaaGreatDoor
open Go.RowKit
set_option linter.unusedSimpArgs false
set_option linter.unusedVariables false
/-- A token from where it stands to t. -/
def Sc.add (s : ByteArray) (x : Sc) (k : Int) (t : Nat) : Sc := ⟨t, x.line, x.l ++ [⟨k, s.extract x.p t, x.p, x.line, false⟩], x.c⟩
/-- What ends a line may make a semicolon. -/
def Sc.semi (x : Sc) : Sc := match x.l.getLast? with
 | none => x
 | some t => if endB t then ⟨x.p, x.line, x.l ++ [⟨6, ⟨#[59]⟩, x.p, x.line, true⟩], x.c⟩ else x
theorem semi_nil (p line : Nat) (c : List Cm) : Sc.semi ⟨p, line, [], c⟩ = ⟨p, line, [], c⟩ := rfl
theorem semi_off (p line : Nat) (l : List Tk) (t : Tk) (c : List Cm) (h : endB t = false) : Sc.semi ⟨p, line, l ++ [t], c⟩ = ⟨p, line, l ++ [t], c⟩ := by
 simp [Sc.semi, h]
theorem semi_on (p line : Nat) (l : List Tk) (t : Tk) (c : List Cm) (h : endB t = true) : Sc.semi ⟨p, line, l ++ [t], c⟩ = ⟨p, line, (l ++ [t]) ++ [⟨6, ⟨#[59]⟩, p, line, true⟩], c⟩ := by
 simp [Sc.semi, h]
def nlF (s : ByteArray) : Nat → Nat → Nat
 | 0, a => a
 | f + 1, a => if a < s.size ∧ byteAt s a ≠ 10 then nlF s f (a + 1) else a
/-- The first newline from a on, or the end. -/
def nlN (s : ByteArray) (a : Nat) : Nat := nlF s (s.size - a) a
theorem nlN_step {s : ByteArray} {a : Nat} (h : a < s.size) (hc : byteAt s a ≠ 10) : nlN s a = nlN s (a + 1) := by
 unfold nlN
 obtain ⟨k, hk⟩ : ∃ k, s.size - a = k + 1 := ⟨s.size - a - 1, by omega⟩
 rw [hk, show s.size - (a + 1) = k by omega, nlF, if_pos ⟨h, hc⟩]
theorem nlN_stop {s : ByteArray} {a : Nat} (hc : byteAt s a = 10) : nlN s a = a := by
 unfold nlN
 cases s.size - a with
 | zero => rfl
 | succ k => rw [nlF, if_neg (fun h => h.2 hc)]
theorem nlN_end {s : ByteArray} {a : Nat} (h : s.size ≤ a) : nlN s a = a := by
 unfold nlN
 rw [show s.size - a = 0 by omega, nlF]
theorem nlF_range (s : ByteArray) : ∀ (f a : Nat), a + f = s.size → a ≤ nlF s f a ∧ nlF s f a ≤ s.size := by
 intro f
 induction f with
 | zero => intro a h; simp only [nlF]; omega
 | succ f ih =>
  intro a h
  rw [nlF]
  split
  ·
   have := ih (a + 1) (by omega); omega
  ·
   omega
theorem nlN_range {s : ByteArray} {a : Nat} (h : a ≤ s.size) : a ≤ nlN s a ∧ nlN s a ≤ s.size := nlF_range s _ _ (by omega)
/-- A comment from where it stands. -/
def Sc.com (s : ByteArray) (x : Sc) : Sc := ⟨nlN s x.p, x.line, x.semi.l, x.c ++ [⟨s.extract x.p (nlN s x.p), x.p, x.line, x.semi.l.length⟩]⟩
def Sc.isCom (s : ByteArray) (x : Sc) : Bool := decide (x.p + 1 < s.size) && decide (byteAt s (x.p + 1) = 47)
def Sc.comment (s : ByteArray) (x : Sc) : Sc := if x.isCom s then x.com s else x
theorem semi_rest (x : Sc) : x.semi.p = x.p ∧ x.semi.line = x.line ∧ x.semi.c = x.c ∧ x.semi.l.length ≤ x.l.length + 1 := by
 unfold Sc.semi
 split
 ·
  exact ⟨rfl, rfl, rfl, by omega⟩
 ·
  split
  ·
   exact ⟨rfl, rfl, rfl, by simp⟩
  ·
   exact ⟨rfl, rfl, rfl, by omega⟩
/-- A byte of a number, or of a word. -/
def clsB (wd : Bool) (c : Nat) : Bool := digB c || (wd && letB c)
def toF (s : ByteArray) (wd : Bool) : Nat → Nat → Nat
 | 0, a => a
 | f + 1, a => if a < s.size ∧ clsB wd (byteAt s a) = true then toF s wd f (a + 1) else a
/-- The first place from a on whose byte is none. -/
def toN (s : ByteArray) (wd : Bool) (a : Nat) : Nat := toF s wd (s.size - a) a
theorem toN_step {s : ByteArray} {wd : Bool} {a : Nat} (h : a < s.size) (hc : clsB wd (byteAt s a) = true) : toN s wd a = toN s wd (a + 1) := by
 unfold toN
 obtain ⟨k, hk⟩ : ∃ k, s.size - a = k + 1 := ⟨s.size - a - 1, by omega⟩
 rw [hk, show s.size - (a + 1) = k by omega, toF, if_pos ⟨h, hc⟩]
theorem toN_stop {s : ByteArray} {wd : Bool} {a : Nat} (hc : clsB wd (byteAt s a) = false) : toN s wd a = a := by
 unfold toN
 cases s.size - a with
 | zero => rfl
 | succ k => rw [toF, if_neg (fun h => by rw [hc] at h; cases h.2)]
theorem toN_end {s : ByteArray} {wd : Bool} {a : Nat} (h : s.size ≤ a) : toN s wd a = a := by
 unfold toN
 rw [show s.size - a = 0 by omega, toF]
theorem toF_range (s : ByteArray) (wd : Bool) : ∀ (f a : Nat), a + f = s.size → a ≤ toF s wd f a ∧ toF s wd f a ≤ s.size := by
 intro f
 induction f with
 | zero => intro a h; simp only [toF]; omega
 | succ f ih =>
  intro a h
  rw [toF]
  split
  ·
   have := ih (a + 1) (by omega); omega
  ·
   omega
theorem toN_range {s : ByteArray} {wd : Bool} {a : Nat} (h : a ≤ s.size) : a ≤ toN s wd a ∧ toN s wd a ≤ s.size := toF_range s wd _ _ (by omega)
def qF (s : ByteArray) : Nat → Nat → Nat
 | 0, a => a
 | f + 1, a => if a < s.size ∧ byteAt s a ≠ 34 ∧ byteAt s a ≠ 10 then qF s f (a + 1) else a
/-- The first quote or newline from a on, or the end. -/
def qN (s : ByteArray) (a : Nat) : Nat := qF s (s.size - a) a
theorem qN_step {s : ByteArray} {a : Nat} (h : a < s.size) (hc : byteAt s a ≠ 34) (hd : byteAt s a ≠ 10) : qN s a = qN s (a + 1) := by
 unfold qN
 obtain ⟨k, hk⟩ : ∃ k, s.size - a = k + 1 := ⟨s.size - a - 1, by omega⟩
 rw [hk, show s.size - (a + 1) = k by omega, qF, if_pos ⟨h, hc, hd⟩]
theorem qN_stop {s : ByteArray} {a : Nat} (hc : byteAt s a = 34 ∨ byteAt s a = 10) : qN s a = a := by
 unfold qN
 cases s.size - a with
 | zero => rfl
 | succ k => rw [qF, if_neg (fun h => by rcases hc with hc | hc; exact h.2.1 hc; exact h.2.2 hc)]
theorem qN_end {s : ByteArray} {a : Nat} (h : s.size ≤ a) : qN s a = a := by
 unfold qN
 rw [show s.size - a = 0 by omega, qF]
theorem qF_ge (s : ByteArray) : ∀ (f a : Nat), a ≤ qF s f a := by
 intro f
 induction f with
 | zero => intro a; exact Nat.le_refl _
 | succ f ih =>
  intro a
  rw [qF]
  split
  ·
   have := ih (a + 1); omega
  ·
   omega
theorem qN_ge (s : ByteArray) (a : Nat) : a ≤ qN s a := qF_ge s _ a
/-- A string is shut. -/
def strB (s : ByteArray) (p : Nat) : Bool := decide (qN s (p + 1) < s.size) && decide (byteAt s (qN s (p + 1)) = 34)
theorem strB_at {s : ByteArray} {p k : Nat} (h : qN s (p + 1) = k) : strB s p = (decide (k < s.size) && decide (byteAt s k = 34)) := by rw [strB, h]
/-- A number may be. -/
def numB (s : ByteArray) (p : Nat) : Bool := decide (toN s false p - p ≤ 12) && !(decide (1 < toN s false p - p) && decide (byteAt s p = 48)) && !(decide (toN s false p < s.size) && letB (byteAt s (toN s false p)))
/-- How long the operator is that begins there. -/
def opN (s : ByteArray) (p : Nat) : Nat := if decide (p + 2 ≤ s.size) && isOp (s.extract p (p + 2)) then 2 else if isOp (s.extract p (p + 1)) then 1 else 0
/-- What begins where it stands: whether something does, and what is then. -/
def Sc.one (s : ByteArray) (x : Sc) : Bool × Sc :=
 if byteAt s x.p = 32 ∨ byteAt s x.p = 9 then (true, ⟨x.p + 1, x.line, x.l, x.c⟩)
 else if byteAt s x.p = 10 then (true, ⟨x.p + 1, x.line + 1, x.semi.l, x.c⟩)
 else if byteAt s x.p = 59 then (true, x.add s 6 (x.p + 1))
 else if byteAt s x.p = 47 then (x.isCom s, x.comment s)
 else if byteAt s x.p = 34 then (strB s x.p, if strB s x.p then x.add s 3 (qN s (x.p + 1) + 1) else x)
 else if digB (byteAt s x.p) then (numB s x.p, if numB s x.p then x.add s 2 (toN s false x.p) else x)
 else if letB (byteAt s x.p) then (decide (toN s true x.p - x.p ≤ 24), if toN s true x.p - x.p ≤ 24 then x.add s (if isKey (s.extract x.p (toN s true x.p)) then 5 else 1) (toN s true x.p) else x)
 else (decide (opN s x.p ≠ 0), if opN s x.p ≠ 0 then x.add s 4 (x.p + opN s x.p) else x)
/-- It goes on, within its text, and makes at most two tokens and one comment. -/
theorem one_goes (s : ByteArray) (x : Sc) (hp : x.p < s.size) (h : (x.one s).1 = true) : x.p < (x.one s).2.p ∧ (x.one s).2.p ≤ s.size ∧ (x.one s).2.l.length ≤ x.l.length + 1 ∧ (x.one s).2.c.length ≤ x.c.length + 1 ∧ (x.one s).2.line ≤ x.line + 1 := by
 have hsr := semi_rest x
 have hnl := nlN_range (s := s) (a := x.p) (by omega)
 have ht := toN_range (s := s) (wd := false) (a := x.p) (by omega)
 have hu := toN_range (s := s) (wd := true) (a := x.p) (by omega)
 revert h
 unfold Sc.one
 split
 ·
  intro _; exact ⟨by simp, by simp; omega, by simp, by simp, by simp⟩
 split
 ·
  intro _; exact ⟨by simp, by simp; omega, by simpa using hsr.2.2.2, by simp, by simp⟩
 split
 ·
  intro _; exact ⟨by simp [Sc.add], by simp [Sc.add]; omega, by simp [Sc.add], by simp [Sc.add], by simp [Sc.add]⟩
 split
 ·
  rename_i h47
  intro h
  have hc : x.comment s = x.com s := by rw [Sc.comment, if_pos h]
  dsimp only
  rw [hc]
  refine ⟨?_, hnl.2, hsr.2.2.2, by simp [Sc.com], by simp [Sc.com]⟩
  show x.p < nlN s x.p
  rw [nlN_step hp (by omega)]
  have := (nlN_range (s := s) (a := x.p + 1) (by omega)).1
  omega
 split
 ·
  intro h
  dsimp only at h ⊢
  rw [if_pos h]
  have hq : qN s (x.p + 1) < s.size := by
   rw [strB, Bool.and_eq_true, decide_eq_true_eq] at h
   exact h.1
  have hq2 : x.p + 1 ≤ qN s (x.p + 1) := qN_ge s _
  exact ⟨by simp [Sc.add]; omega, by simp [Sc.add]; omega, by simp [Sc.add], by simp [Sc.add], by simp [Sc.add]⟩
 split
 ·
  rename_i hd
  intro h
  dsimp only at h ⊢
  rw [if_pos h]
  have h1 : toN s false x.p = toN s false (x.p + 1) := toN_step hp (by rw [clsB, hd]; rfl)
  have h2 := (toN_range (s := s) (wd := false) (a := x.p + 1) (by omega)).1
  exact ⟨by simp only [Sc.add]; omega, by simp only [Sc.add]; omega, by simp [Sc.add], by simp [Sc.add], by simp [Sc.add]⟩
 split
 ·
  rename_i hd hl
  intro h
  dsimp only at h ⊢
  rw [if_pos (of_decide_eq_true h)]
  have h1 : toN s true x.p = toN s true (x.p + 1) := toN_step hp (by rw [clsB, hl]; simp)
  have h2 := (toN_range (s := s) (wd := true) (a := x.p + 1) (by omega)).1
  exact ⟨by simp only [Sc.add]; omega, by simp only [Sc.add]; omega, by simp [Sc.add], by simp [Sc.add], by simp [Sc.add]⟩
 ·
  intro h
  dsimp only at h ⊢
  have h := of_decide_eq_true h
  rw [if_pos h]
  have hle : x.p + opN s x.p ≤ s.size := by
   unfold opN
   split
   ·
    rename_i h; rw [Bool.and_eq_true, decide_eq_true_eq] at h; exact h.1
   ·
    split <;> omega
  exact ⟨by simp only [Sc.add]; omega, by simp only [Sc.add]; exact hle, by simp [Sc.add], by simp [Sc.add], by simp [Sc.add]⟩
/-- From x on, as often as f says. -/
def scanL (s : ByteArray) : Nat → Sc → Bool × Sc
 | 0, x => (true, x)
 | f + 1, x => if x.p < s.size then (if (x.one s).1 then scanL s f (x.one s).2 else (false, (x.one s).2)) else (true, x)
/-- Where it began: nothing yet. -/
def sc0 : Sc := ⟨0, 1, [], []⟩
/-- What a scanner that has come so far has at most. -/
structure ScOk (s : ByteArray) (x : Sc) : Prop where
 p : x.p ≤ s.size
 l : x.l.length ≤ x.p
 c : x.c.length ≤ x.p
 line : x.line ≤ x.p + 1
theorem sc0_ok (s : ByteArray) : ScOk s sc0 := ⟨Nat.zero_le _, Nat.le_refl _, Nat.le_refl _, Nat.le_refl _⟩
theorem ScOk.one {s : ByteArray} {x : Sc} (h : ScOk s x) (hp : x.p < s.size) (ho : (x.one s).1 = true) : ScOk s (x.one s).2 ∧ x.p < (x.one s).2.p := by
 obtain ⟨h1, h2, h3, h4, h5⟩ := one_goes s x hp ho
 have hl := h.l
 have hc := h.c
 have hn := h.line
 exact ⟨⟨h2, by omega, by omega, by omega⟩, h1⟩
theorem scanL_step {s : ByteArray} {f : Nat} {x : Sc} (hp : x.p < s.size) (ho : (x.one s).1 = true) : scanL s (f + 1) x = scanL s f (x.one s).2 := by
 rw [scanL, if_pos hp, if_pos ho]
theorem scanL_stop {s : ByteArray} {f : Nat} {x : Sc} (hp : x.p < s.size) (ho : (x.one s).1 = false) : scanL s (f + 1) x = (false, (x.one s).2) := by
 rw [scanL, if_pos hp, if_neg (by rw [ho]; decide)]
theorem scanL_end {s : ByteArray} {f : Nat} {x : Sc} (hp : s.size ≤ x.p) : scanL s f x = (true, x) := by
 cases f with
 | zero => rfl
 | succ f => rw [scanL, if_neg (by omega)]
/-- More rounds than bytes turn nothing. -/
theorem scanL_more {s : ByteArray} : ∀ (f g : Nat) (x : Sc), ScOk s x → s.size - x.p ≤ f → s.size - x.p ≤ g → scanL s f x = scanL s g x := by
 intro f
 induction f with
 | zero => intro g x _ hf _; rw [scanL_end (by omega), scanL_end (by omega)]
 | succ f ih =>
  intro g x hx hf hg
  by_cases hp : x.p < s.size
  ·
   obtain ⟨g', rfl⟩ : ∃ g', g = g' + 1 := ⟨g - 1, by omega⟩
   cases ho : (x.one s).1 with
   | true =>
    obtain ⟨h1, h2⟩ := hx.one hp ho
    rw [scanL_step hp ho, scanL_step hp ho]
    exact ih g' _ h1 (by omega) (by omega)
   | false => rw [scanL_stop hp ho, scanL_stop hp ho]
  ·
   rw [scanL_end (by omega), scanL_end (by omega)]
/-- What a text is cut into; fl: the first fault of another kind, or below nought. -/
def scanR (s : ByteArray) (fl : Int) : List Tk × List Cm × Int :=
 if (scanL s s.size sc0).1 then
  (if 0 ≤ fl then ([], [], fl) else ((scanL s s.size sc0).2.semi.l ++ [⟨7, ⟨#[]⟩, s.size, (scanL s s.size sc0).2.line, false⟩], (scanL s s.size sc0).2.c, -1))
 else ([], [], if fl < 0 ∨ ((scanL s s.size sc0).2.p : Int) < fl then ((scanL s s.size sc0).2.p : Int) else fl)
/-- The first fault, as far as a text's length goes. -/
def bigF (s : ByteArray) (fl : Int) : Int := if 2000 < s.size ∧ (fl < 0 ∨ 2000 < fl) then 2000 else fl
theorem scanR_stop {s : ByteArray} {fb : Int} {x : Sc} (h : scanL s s.size sc0 = (false, x)) : scanR s fb = ([], [], if fb < 0 ∨ (x.p : Int) < fb then (x.p : Int) else fb) := by
 rw [scanR, h]; rfl
theorem scanR_bad {s : ByteArray} {fb : Int} {x : Sc} (h : scanL s s.size sc0 = (true, x)) (hf : 0 ≤ fb) : scanR s fb = ([], [], fb) := by
 rw [scanR, h, if_pos rfl, if_pos hf]
theorem scanR_ok {s : ByteArray} {fb : Int} {x : Sc} (h : scanL s s.size sc0 = (true, x)) (hf : ¬ 0 ≤ fb) : scanR s fb = (x.semi.l ++ [⟨7, ⟨#[]⟩, s.size, x.line, false⟩], x.c, -1) := by
 rw [scanR, h, if_pos rfl, if_neg hf]
/-- What is left when nothing begins: as it was. -/
theorem one_stays (s : ByteArray) (x : Sc) (h : (x.one s).1 = false) : (x.one s).2 = x := by
 revert h
 unfold Sc.one
 repeat' split
 all_goals
  intro h
  dsimp only at h ⊢ <;> first
   | (cases h; done)
   | (rw [Sc.comment, if_neg (by rw [h]; decide)]; done)
   | (exfalso; simp_all; done)
   | rfl
end Go.Proofs.YtiknnobgoamgcaaGreatDoor
/-
  UTF-8 at a place of a text: how many bytes, whether it is one; the first fault, the number of runes; of two texts one behind the other. No program.
-/
set_option linter.unusedVariables false
namespace Go.Proofs.YtiknnobgoamgcaaGreatDoor
open Go.Lib

/-! ### Four bytes -/
theorem dN_ge (n b0 b1 b2 b3 : Nat) : 1 ≤ (decodeN n b0 b1 b2 b3).2 := by
 unfold decodeN
 repeat' split
 all_goals simp
theorem dN_le (n b0 b1 b2 b3 : Nat) (hn : 1 ≤ n) : (decodeN n b0 b1 b2 b3).2 ≤ n := by
 unfold decodeN
 repeat' split
 all_goals (dsimp only; omega)
theorem dN_le4 (n b0 b1 b2 b3 : Nat) : (decodeN n b0 b1 b2 b3).2 ≤ 4 := by
 unfold decodeN
 repeat' split
 all_goals simp
theorem dN_rune (n b0 b1 b2 b3 : Nat) (h0 : b0 < 256) : (decodeN n b0 b1 b2 b3).1 ≤ 1114111 := by
 unfold decodeN
 repeat' split
 all_goals (dsimp only; omega)
/-- What no text may hold, by its number. -/
def ctl (r : Nat) : Bool := (decide (r < 32) && (decide (r ≠ 9) && decide (r ≠ 10))) || decide (r = 127)
/-- The first byte is no UTF-8. -/
def errN (n b0 b1 b2 b3 : Nat) : Bool := decide ((decodeN n b0 b1 b2 b3).2 = 1) && decide (128 ≤ b0)
def repN (n b0 b1 b2 : Nat) : Bool := decide (3 ≤ n ∧ b0 = 239 ∧ b1 = 191 ∧ b2 = 189)
set_option maxHeartbeats 2000000 in
theorem dN_shape (n b0 b1 b2 b3 : Nat) (h1 : b1 < 256) (h2 : b2 < 256) :
  (b0 < 128 ∧ (decodeN n b0 b1 b2 b3).1 = b0 ∧ (decodeN n b0 b1 b2 b3).2 = 1) ∨
  (128 ≤ b0 ∧ (decodeN n b0 b1 b2 b3).1 = 65533 ∧ (decodeN n b0 b1 b2 b3).2 = 1 ∧ ¬ (3 ≤ n ∧ b0 = 239 ∧ b1 = 191 ∧ b2 = 189)) ∨
  (128 ≤ b0 ∧ 128 ≤ (decodeN n b0 b1 b2 b3).1 ∧ (decodeN n b0 b1 b2 b3).2 ≠ 1 ∧ ((decodeN n b0 b1 b2 b3).1 = 65533 ↔ 3 ≤ n ∧ b0 = 239 ∧ b1 = 191 ∧ b2 = 189)) := by
 unfold decodeN
 repeat' split
 all_goals (dsimp only; omega)
theorem ctl_high (r : Nat) (h : 128 ≤ r) : ctl r = false := by
 have a1 : ¬ r < 32 := by omega
 have a2 : ¬ r = 127 := by omega
 simp [ctl, a1, a2]
theorem ctl_rune (n b0 b1 b2 b3 : Nat) (h1 : b1 < 256) (h2 : b2 < 256) : ctl (decodeN n b0 b1 b2 b3).1 = ctl b0 := by
 rcases dN_shape n b0 b1 b2 b3 h1 h2 with ⟨_, h, _⟩ | ⟨h, h', _⟩ | ⟨h, h', _⟩
 ·
  rw [h]
 ·
  rw [ctl_high b0 h, h']; rfl
 ·
  rw [ctl_high b0 h, ctl_high _ h']
theorem err_rune (n b0 b1 b2 b3 : Nat) (h1 : b1 < 256) (h2 : b2 < 256) (h : (decodeN n b0 b1 b2 b3).1 ≠ 65533) : errN n b0 b1 b2 b3 = false := by
 unfold errN
 rcases dN_shape n b0 b1 b2 b3 h1 h2 with ⟨h', _⟩ | ⟨_, h', _⟩ | ⟨_, _, h', _⟩
 ·
  rw [decide_eq_false (show ¬ 128 ≤ b0 by omega), Bool.and_false]
 ·
  exact absurd h' h
 ·
  rw [decide_eq_false h']; rfl
theorem err_rep (n b0 b1 b2 b3 : Nat) (h1 : b1 < 256) (h2 : b2 < 256) (h : (decodeN n b0 b1 b2 b3).1 = 65533) (h0 : b0 < 256) : errN n b0 b1 b2 b3 = !repN n b0 b1 b2 := by
 unfold errN repN
 rcases dN_shape n b0 b1 b2 b3 h1 h2 with ⟨h', h'', _⟩ | ⟨h3, _, h4, h5⟩ | ⟨_, _, h', h5⟩
 ·
  omega
 ·
  rw [decide_eq_true h3, decide_eq_true h4, decide_eq_false h5]; rfl
 ·
  rw [decide_eq_false h', decide_eq_true (h5.1 h)]; rfl
/-- What the reference tells. -/
def refN (n b0 b1 b2 b3 : Nat) : Nat × Bool :=
 if b0 < 128 then (1, true)
 else if 192 ≤ b0 ∧ b0 < 224 then
  if n < 2 then (1, false) else if b1 < 128 ∨ 191 < b1 then (1, false)
  else if (b0 - 192) * 64 + b1 - 128 < 128 then (1, false) else (2, true)
 else if 224 ≤ b0 ∧ b0 < 240 then
  if n < 3 then (1, false) else if b1 < 128 ∨ 191 < b1 then (1, false) else if b2 < 128 ∨ 191 < b2 then (1, false)
  else if ((b0 - 224) * 64 + b1 - 128) * 64 + b2 - 128 < 2048 ∨ (55296 ≤ ((b0 - 224) * 64 + b1 - 128) * 64 + b2 - 128 ∧ ((b0 - 224) * 64 + b1 - 128) * 64 + b2 - 128 < 57344) then (1, false) else (3, true)
 else if 240 ≤ b0 ∧ b0 < 248 then
  if n < 4 then (1, false) else if b1 < 128 ∨ 191 < b1 then (1, false) else if b2 < 128 ∨ 191 < b2 then (1, false) else if b3 < 128 ∨ 191 < b3 then (1, false)
  else if (((b0 - 240) * 64 + b1 - 128) * 64 + b2 - 128) * 64 + b3 - 128 < 65536 ∨ 1114111 < (((b0 - 240) * 64 + b1 - 128) * 64 + b2 - 128) * 64 + b3 - 128 then (1, false) else (4, true)
 else (1, false)
set_option maxHeartbeats 8000000 in
set_option maxRecDepth 100000 in
theorem refN_eq (n b0 b1 b2 b3 : Nat) (hn : 1 ≤ n) (h0 : b0 < 256) (h1 : b1 < 256) (h2 : b2 < 256) (h3 : b3 < 256) : refN n b0 b1 b2 b3 = ((decodeN n b0 b1 b2 b3).2, !errN n b0 b1 b2 b3) := by
 by_cases c0 : b0 < 128
 ·
  simp [refN, errN, decodeN, c0]
 ·
  have he : errN n b0 b1 b2 b3 = decide ((decodeN n b0 b1 b2 b3).2 = 1) := by rw [errN, decide_eq_true (show 128 ≤ b0 by omega), Bool.and_true]
  rw [he]
  unfold refN decodeN
  rw [if_neg c0, if_neg c0]
  repeat' split
  all_goals first | rfl | (exfalso; omega)
/-- A rune that is there in a text is there with more behind it. -/
theorem dN_more (n n' b0 b1 b2 b3 c1 c2 c3 : Nat) (hn : 1 ≤ n) (hnn : n ≤ n') (e1 : 1 < n → c1 = b1) (e2 : 2 < n → c2 = b2) (e3 : 3 < n → c3 = b3) (h : errN n b0 b1 b2 b3 = false) :
  decodeN n' b0 c1 c2 c3 = decodeN n b0 b1 b2 b3 := by
 have h' : (decodeN n b0 b1 b2 b3).2 ≠ 1 ∨ b0 < 128 := by
  simp only [errN, Bool.and_eq_false_iff, decide_eq_false_iff_not] at h
  omega
 clear h
 by_cases c0 : b0 < 128
 ·
  simp [decodeN, c0]
 ·
  have h1 : 1 < n := by
   have := dN_le n b0 b1 b2 b3 hn
   have := dN_ge n b0 b1 b2 b3
   omega
  have h1' : 1 < n' := by omega
  rw [e1 h1]
  by_cases c2 : b0 / 32 = 6
  ·
   have c3 : ¬ b0 / 16 = 14 := by omega
   have c4 : ¬ b0 / 8 = 30 := by omega
   unfold decodeN
   simp only [c0, c2, c3, c4, h1, h1', if_false, true_and, false_and]
  ·
   by_cases c3 : b0 / 16 = 14
   ·
    have c4 : ¬ b0 / 8 = 30 := by omega
    have h2 : 2 < n := by
     refine Decidable.byContradiction fun h2 => ?_
     have : (decodeN n b0 b1 b2 b3).2 = 1 := by
      unfold decodeN
      simp only [c0, c2, c3, c4, h1, h2, if_false, true_and, false_and, and_false]
     omega
    have h2' : 2 < n' := by omega
    rw [e2 h2]
    unfold decodeN
    simp only [c0, c2, c3, c4, h1, h1', h2, h2', if_false, true_and, false_and]
   ·
    by_cases c4 : b0 / 8 = 30
    ·
     have h3 : 3 < n := by
      refine Decidable.byContradiction fun h3 => ?_
      have : (decodeN n b0 b1 b2 b3).2 = 1 := by
       unfold decodeN
       simp only [c0, c2, c3, c4, h1, h3, if_false, true_and, false_and, and_false]
      omega
     have h2 : 2 < n := by omega
     have h2' : 2 < n' := by omega
     have h3' : 3 < n' := by omega
     rw [e2 h2, e3 h3]
     unfold decodeN
     simp only [c0, c2, c3, c4, h1, h1', h2, h2', h3, h3', if_false, true_and, false_and]
    ·
     unfold decodeN
     simp only [c0, c2, c3, c4, if_false, false_and]

/-! ### Places of a text -/
def wid (s : ByteArray) (i : Nat) : Nat := (Utf8.decode s i).2
theorem dec_at (s : ByteArray) (i : Nat) : Utf8.decode s i = decodeN (s.size - i) (byteAt s i) (byteAt s (i + 1)) (byteAt s (i + 2)) (byteAt s (i + 3)) := decode_at s i
def err (s : ByteArray) (i : Nat) : Bool := errN (s.size - i) (byteAt s i) (byteAt s (i + 1)) (byteAt s (i + 2)) (byteAt s (i + 3))
theorem wid_ge (s : ByteArray) (i : Nat) : 1 ≤ wid s i := by unfold wid; rw [dec_at]; exact dN_ge _ _ _ _ _
theorem wid_le4 (s : ByteArray) (i : Nat) : wid s i ≤ 4 := by unfold wid; rw [dec_at]; exact dN_le4 _ _ _ _ _
theorem wid_le (s : ByteArray) (i : Nat) (h : i < s.size) : i + wid s i ≤ s.size := by
 unfold wid; rw [dec_at]
 have := dN_le (s.size - i) (byteAt s i) (byteAt s (i + 1)) (byteAt s (i + 2)) (byteAt s (i + 3)) (by omega)
 omega
theorem dec_extract (s : ByteArray) (a : Nat) (h : a ≤ s.size) : Utf8.decode (s.extract a s.size) 0 = Utf8.decode s a := by
 rw [dec_at, dec_at]
 simp only [byteAt_extract, Nat.add_zero, Nat.zero_add, ByteArray.size_extract, Nat.sub_zero, Nat.min_self]
theorem err_extract (s : ByteArray) (a : Nat) (h : a ≤ s.size) : err (s.extract a s.size) 0 = err s a := by
 unfold err
 simp only [byteAt_extract, Nat.add_zero, Nat.zero_add, ByteArray.size_extract, Nat.sub_zero, Nat.min_self]
theorem dec_right (a b : ByteArray) (i : Nat) : Utf8.decode (a ++ b) (a.size + i) = Utf8.decode b i ∧ err (a ++ b) (a.size + i) = err b i := by
 rw [dec_at, dec_at]
 unfold err
 simp only [Nat.add_assoc, byteAt_right, ByteArray.size_append, show a.size + b.size - (a.size + i) = b.size - i by omega, and_self]
theorem dec_left (a b : ByteArray) (i : Nat) (h : i < a.size) (he : err a i = false) : Utf8.decode (a ++ b) i = Utf8.decode a i ∧ err (a ++ b) i = false := by
 have hd : Utf8.decode (a ++ b) i = Utf8.decode a i := by
  rw [dec_at, dec_at, byteAt_left a b i h]
  exact dN_more _ _ _ _ _ _ _ _ _ (by omega) (by rw [ByteArray.size_append]; omega) (fun h => byteAt_left a b _ (by omega)) (fun h => byteAt_left a b _ (by omega)) (fun h => byteAt_left a b _ (by omega)) he
 refine ⟨hd, ?_⟩
 unfold err errN at *
 rw [dec_at, dec_at] at hd
 rw [hd, byteAt_left a b i h]
 exact he

/-! ### The first fault, how many runes -/
def bad (s : ByteArray) (i : Nat) : Bool := ctl (byteAt s i) || err s i
def fltF (s : ByteArray) : Nat → Nat → Int
 | 0, _ => -1
 | f + 1, pos => if pos < s.size then (if bad s pos then (pos : Int) else fltF s f (pos + wid s pos)) else -1
def flt (s : ByteArray) : Int := fltF s s.size 0
def cntF (s : ByteArray) : Nat → Nat → Nat
 | 0, _ => 0
 | f + 1, pos => if pos < s.size then cntF s f (pos + wid s pos) + 1 else 0
def cnt (s : ByteArray) : Nat := cntF s s.size 0
theorem fltF_end (s : ByteArray) (f pos : Nat) (h : ¬ pos < s.size) : fltF s f pos = -1 := by
 cases f with
 | zero => rfl
 | succ f => simp [fltF, h]
theorem cntF_end (s : ByteArray) (f pos : Nat) (h : ¬ pos < s.size) : cntF s f pos = 0 := by
 cases f with
 | zero => rfl
 | succ f => simp [cntF, h]
theorem fltF_fuel (s : ByteArray) : ∀ (f g pos : Nat), s.size ≤ pos + f → s.size ≤ pos + g → fltF s f pos = fltF s g pos
 | 0, g, pos, h, _ => by rw [fltF_end s 0 pos (by omega), fltF_end s g pos (by omega)]
 | f + 1, 0, pos, _, h => by rw [fltF_end s 0 pos (by omega), fltF_end s (f + 1) pos (by omega)]
 | f + 1, g + 1, pos, h1, h2 => by
  have := wid_ge s pos
  simp only [fltF]
  rw [fltF_fuel s f g (pos + wid s pos) (by omega) (by omega)]
theorem cntF_fuel (s : ByteArray) : ∀ (f g pos : Nat), s.size ≤ pos + f → s.size ≤ pos + g → cntF s f pos = cntF s g pos
 | 0, g, pos, h, _ => by rw [cntF_end s 0 pos (by omega), cntF_end s g pos (by omega)]
 | f + 1, 0, pos, _, h => by rw [cntF_end s 0 pos (by omega), cntF_end s (f + 1) pos (by omega)]
 | f + 1, g + 1, pos, h1, h2 => by
  have := wid_ge s pos
  simp only [cntF]
  rw [cntF_fuel s f g (pos + wid s pos) (by omega) (by omega)]
theorem fltF_range (s : ByteArray) : ∀ (f pos : Nat), fltF s f pos = -1 ∨ ((pos : Int) ≤ fltF s f pos ∧ fltF s f pos < s.size)
 | 0, _ => .inl rfl
 | f + 1, pos => by
  unfold fltF
  split
  ·
   split
   ·
    exact .inr ⟨Int.le_refl _, by omega⟩
   ·
    rcases fltF_range s f (pos + wid s pos) with h | h
    ·
     exact .inl h
    ·
     exact .inr ⟨by omega, h.2⟩
  ·
   exact .inl rfl
theorem flt_range (s : ByteArray) : flt s = -1 ∨ (0 ≤ flt s ∧ flt s < s.size) := by
 have := fltF_range s s.size 0
 unfold flt
 omega
theorem cntF_le (s : ByteArray) : ∀ (f pos : Nat), cntF s f pos ≤ s.size - pos
 | 0, _ => Nat.zero_le _
 | f + 1, pos => by
  unfold cntF
  split
  ·
   have := cntF_le s f (pos + wid s pos)
   have := wid_le s pos (by assumption)
   have := wid_ge s pos
   omega
  ·
   omega
theorem cnt_le (s : ByteArray) : cnt s ≤ s.size := by
 have := cntF_le s s.size 0
 unfold cnt
 omega
theorem bad_right (a b : ByteArray) (i : Nat) : bad (a ++ b) (a.size + i) = bad b i := by
 unfold bad
 rw [byteAt_right, (dec_right a b i).2]
theorem wid_right (a b : ByteArray) (i : Nat) : wid (a ++ b) (a.size + i) = wid b i := by
 unfold wid
 rw [(dec_right a b i).1]
/-- A fault of the second of two texts, told of both. -/
def moved (n : Nat) (f : Int) : Int := if 0 ≤ f then f + n else f
theorem fltF_right (a b : ByteArray) : ∀ (f i : Nat), fltF (a ++ b) f (a.size + i) = moved a.size (fltF b f i)
 | 0, i => rfl
 | f + 1, i => by
  simp only [fltF, bad_right, wid_right, ByteArray.size_append]
  rw [Nat.add_assoc, fltF_right a b f]
  by_cases h : i < b.size
  ·
   simp only [h, show a.size + i < a.size + b.size by omega, if_true]
   split
   ·
    unfold moved
    rw [if_pos (by omega)]
    omega
   ·
    rfl
  ·
   simp only [h, show ¬ a.size + i < a.size + b.size by omega, if_false]
   rfl
theorem cntF_right (a b : ByteArray) : ∀ (f i : Nat), cntF (a ++ b) f (a.size + i) = cntF b f i
 | 0, i => rfl
 | f + 1, i => by
  simp only [cntF, wid_right, ByteArray.size_append]
  rw [Nat.add_assoc, cntF_right a b f]
  by_cases h : i < b.size
  ·
   simp only [h, show a.size + i < a.size + b.size by omega, if_true]
  ·
   simp only [h, show ¬ a.size + i < a.size + b.size by omega, if_false]
theorem join_left (a b : ByteArray) : ∀ (f g pos : Nat), a.size ≤ pos + f → a.size + b.size ≤ pos + g → pos ≤ a.size → fltF a f pos = -1 →
  fltF (a ++ b) g pos = moved a.size (flt b) ∧ cntF (a ++ b) g pos = cntF a f pos + cnt b := by
 intro f
 induction f with
 | zero =>
  intro g pos h1 h2 h3 _
  obtain rfl : pos = a.size := by omega
  have e1 := fltF_right a b g 0
  have e2 := cntF_right a b g 0
  rw [Nat.add_zero] at e1 e2
  rw [e1, e2, fltF_fuel b g b.size 0 (by omega) (by omega), cntF_fuel b g b.size 0 (by omega) (by omega), cntF_end a 0 a.size (by omega), Nat.zero_add]
  exact ⟨rfl, rfl⟩
 | succ f ih =>
  intro g pos h1 h2 h3 h4
  rcases Nat.lt_or_ge pos a.size with h | h
  ·
   simp only [fltF, h, if_true] at h4
   have hb : bad a pos = false := by
    cases hb : bad a pos with
    | false => rfl
    | true => rw [hb] at h4; simp at h4
   rw [hb] at h4
   simp only [Bool.false_eq_true, if_false] at h4
   obtain ⟨hc, he⟩ : ctl (byteAt a pos) = false ∧ err a pos = false := by simpa [bad] using hb
   have hl := dec_left a b pos h he
   have hbl : bad (a ++ b) pos = false := by unfold bad; rw [byteAt_left a b pos h, hc, hl.2]; rfl
   have hw : wid (a ++ b) pos = wid a pos := by unfold wid; rw [hl.1]
   have hg := wid_ge a pos
   have hle := wid_le a pos h
   cases g with
   | zero => omega
   | succ g =>
    have := ih g (pos + wid a pos) (by omega) (by omega) (by omega) h4
    simp only [fltF, cntF, hbl, hw, ByteArray.size_append, show pos < a.size + b.size by omega, h, if_true, Bool.false_eq_true, if_false, this.1, this.2, true_and]
    omega
  ·
   obtain rfl : pos = a.size := by omega
   have e1 := fltF_right a b g 0
   have e2 := cntF_right a b g 0
   rw [Nat.add_zero] at e1 e2
   rw [e1, e2, fltF_fuel b g b.size 0 (by omega) (by omega), cntF_fuel b g b.size 0 (by omega) (by omega), cntF_end a _ a.size (by omega), Nat.zero_add]
   exact ⟨rfl, rfl⟩
theorem join (a b : ByteArray) (h : flt a = -1) : flt (a ++ b) = moved a.size (flt b) ∧ cnt (a ++ b) = cnt a + cnt b :=
 join_left a b a.size (a ++ b).size 0 (by omega) (by rw [ByteArray.size_append]; omega) (by omega) h
/-- Letters alone. -/
theorem fltF_letters (s : ByteArray) (hs : ∀ i, i < s.size → byteAt s i = 97) : ∀ (f pos : Nat), fltF s f pos = -1
 | 0, _ => rfl
 | f + 1, pos => by
  unfold fltF
  split
  ·
   rename_i h
   have : bad s pos = false := by
    unfold bad err
    rw [hs pos h]
    simp [ctl, errN]
   rw [this, fltF_letters s hs f]
   rfl
  ·
   rfl
end Go.Proofs.YtiknnobgoamgcaaGreatDoor
/-
  The walks of package utf: control, written, Fault.
-/
namespace Go.Proofs.YtiknnobgoamgcaaGreatDoor
open Go.RowKit
set_option maxHeartbeats 400000 in
set_option maxRecDepth 100000 in
theorem control_any (r : Nat) (w : World) (hr : r ≤ 1114111) :
  Calls Tryz.prog 59 #[.int .i32 r] w fun e w' => e = .returned (.bool (ctl r)) ∧ w' = w := by
 go_enter Tryz.func59, Tryz.ntmps59
 go_wp2
 all_goals
  go_ret
  refine ⟨ret_bool ?_, rfl⟩
  rw [Bool.eq_iff_iff]
  simp only [ctl, Bool.or_eq_true, Bool.and_eq_true, decide_eq_true_eq, beq_iff_eq, Bool.false_eq_true, ne_eq, true_iff, false_iff]
  omega
/-- A text begins with the replacement rune, written out. -/
def repS (s : ByteArray) : Bool := repN s.size (byteAt s 0) (byteAt s 1) (byteAt s 2)
theorem rep_of (s : ByteArray) (h : 3 ≤ s.size) : ((s.extract 0 3).toList == [239, 191, 189]) = repS s := by
 rw [Lib.extract_toList]
 obtain ⟨⟨l⟩⟩ := s
 match l, h with
 | a :: b :: c :: r, h =>
  have h' : 3 ≤ (⟨⟨a :: b :: c :: r⟩⟩ : ByteArray).size := h
  show ([a, b, c] == [239, 191, 189]) = repN _ a.toNat b.toNat c.toNat
  rw [repN, Bool.eq_iff_iff]
  simp only [h', true_and, beq_iff_eq, List.cons.injEq, and_true, decide_eq_true_eq, ← UInt8.toNat_inj]
  exact Iff.rfl
set_option maxHeartbeats 400000 in
set_option maxRecDepth 100000 in
theorem lHasPrefix_any (s : ByteArray) (w : World) (hs : s.size ≤ maxLen) :
  Calls Tryz.prog 97 #[.string s, .string ⟨#[239, 191, 189]⟩] w fun e w' => e = .returned (.bool (repS s)) ∧ w' = w := by
 unfold maxLen at hs
 by_cases h3 : s.size < 3
 ·
  go_enter Tryz.func97, Tryz.ntmps97
  go_wp2
  go_ret
  refine ⟨ret_bool ?_, rfl⟩
  rw [repS, repN, decide_eq_false (by omega)]
 ·
  go_enter Tryz.func97, Tryz.ntmps97
  go_wp2
  go_ret
  exact ⟨ret_bool (rep_of s (by omega)), rfl⟩
set_option maxHeartbeats 400000 in
set_option maxRecDepth 100000 in
theorem written_any (s : ByteArray) (w : World) (hs : s.size ≤ maxLen) :
  Calls Tryz.prog 60 #[.string s] w fun e w' => e = .returned (.bool (repS s)) ∧ w' = w := by
 have h1 : ∀ w, Calls Tryz.prog 79 #[.string s, .string ⟨#[239, 191, 189]⟩] w fun e w' => e = .returned (.bool (repS s)) ∧ w' = w := fun w => by
  go_enter Tryz.func79, Tryz.ntmps79
  go_wp2_with fail
  refine (lHasPrefix_any s w hs).mono ?_
  rintro e W ⟨rfl, rfl⟩
  go_wp2
  go_ret
  exact ⟨rfl, rfl⟩
 go_enter Tryz.func60, Tryz.ntmps60
 go_wp2_with fail
 refine (h1 w).mono ?_
 rintro e W ⟨rfl, rfl⟩
 go_wp2
 go_ret
 exact ⟨rfl, rfl⟩
theorem bad_ctl (s : ByteArray) (pos : Nat) (h : ctl (Utf8.decode s pos).1 = true) : bad s pos = true := by
 rw [dec_at, ctl_rune _ _ _ _ _ (byteAt_lt _ _) (byteAt_lt _ _)] at h
 rw [bad, h, Bool.true_or]
theorem bad_other (s : ByteArray) (pos : Nat) (h : ctl (Utf8.decode s pos).1 = false) (h' : (Utf8.decode s pos).1 ≠ 65533) : bad s pos = false := by
 rw [dec_at] at h h'
 rw [ctl_rune _ _ _ _ _ (byteAt_lt _ _) (byteAt_lt _ _)] at h
 rw [bad, h, err, err_rune _ _ _ _ _ (byteAt_lt _ _) (byteAt_lt _ _) h']
 rfl
theorem bad_rep (s : ByteArray) (pos : Nat) (h : ctl (Utf8.decode s pos).1 = false) (h' : (Utf8.decode s pos).1 = 65533) : bad s pos = !repS (s.extract pos s.size) := by
 rw [dec_at] at h h'
 rw [ctl_rune _ _ _ _ _ (byteAt_lt _ _) (byteAt_lt _ _)] at h
 rw [bad, h, err, err_rep _ _ _ _ _ (byteAt_lt _ _) (byteAt_lt _ _) h' (byteAt_lt _ _), repS]
 simp only [byteAt_extract, ByteArray.size_extract, Nat.min_self, Nat.add_zero, Bool.false_or]
theorem rune_le (s : ByteArray) (pos : Nat) : (Utf8.decode s pos).1 ≤ 1114111 := by
 rw [dec_at]
 exact dN_rune _ _ _ _ _ (byteAt_lt _ _)
set_option maxHeartbeats 1000000 in
set_option maxRecDepth 100000 in
theorem uFault_any (s : ByteArray) (w : World) (hs : s.size ≤ maxLen) :
  Calls Tryz.prog 37 #[.string s] w fun e w' => e = .returned (.int .i64 (flt s)) ∧ Below w.heap.size w w' := by
 unfold maxLen at hs
 go_enter Tryz.func37, Tryz.ntmps37
 go_wp2
 go_loopg [3, 4] s.size (fun gf s3 s4 wx => ∃ pos : Nat, wx.heap[w.heap.size]? = some (.stringIter s pos) ∧ Below w.heap.size w wx ∧ fltF s gf pos = flt s ∧ s.size ≤ pos + gf)
 case atStart => exact ⟨0, World.iter_heap w s 0, (Below.refl _ w).alloc (Nat.le_refl _) _, rfl, by omega⟩
 case round =>
  obtain ⟨pos, hit, hbw, hleft, hfu⟩ := hrel
  by_cases hps : pos < s.size
  ·
   obtain ⟨g', rfl⟩ : ∃ g', gk = g' + 1 := ⟨gk - 1, by omega⟩
   have hnx : ∀ ty, (Instr.next (.pointer (some ⟨w.heap.size, 0, none⟩)) true ty).run Tryz.prog wr = _ := fun ty => Lib.run_next_any_at wr w.heap.size s pos ty hit hps
   have hwd : 1 ≤ (Utf8.decode s pos).2 := wid_ge s pos
   have hrl := rune_le s pos
   have hb1 := bad_ctl s pos
   have hb2 := bad_other s pos
   have hb3 := bad_rep s pos
   simp only [fltF, hps, if_true] at hleft
   rw [show wid s pos = (Utf8.decode s pos).2 from rfl] at hleft
   obtain ⟨R, hR⟩ : ∃ R, (Utf8.decode s pos).1 = R := ⟨_, rfl⟩
   obtain ⟨K, hK⟩ : ∃ K, (Utf8.decode s pos).2 = K := ⟨_, rfl⟩
   rw [hR, hK] at hnx
   rw [hR] at hb1 hb2 hb3 hrl
   rw [hK] at hwd hleft
   clear hR hK
   have hit2 := Lib.iterAt_heap wr w.heap.size s pos (pos + K) hit
   have hbw2 := Lib.below_iterAt hbw (k := w.heap.size) (Nat.le_refl _) s (pos + K)
   obtain ⟨W, hWd⟩ : ∃ W, wr.iterAt w.heap.size s (pos + K) = W := ⟨_, rfl⟩
   rw [hWd] at hnx hit2 hbw2
   have HC := control_any R W hrl
   have HW := zH (written_any (s.extract pos s.size) W (by rw [ByteArray.size_extract]; unfold maxLen; omega))
   clear hWd hit hbw
   cases hc : ctl R with
   | true =>
    rw [hb1 hc, if_pos rfl] at hleft
    rw [hc] at HC
    have HC := zH HC
    have HL := zH hleft
    clear hleft hb1 hb2 hb3 hc HW
    go_wp2_with fail
    refine (uH HC).mono ?_
    rintro e W' ⟨rfl, rfl⟩
    go_wp2
    go_ret
    exact ⟨ret_int (uH HL), hbw2⟩
   | false =>
    rw [hc] at HC
    have HC := zH HC
    by_cases hRe : R = 65533
    ·
     have hbd := hb3 hc hRe
     cases hrp : repS (s.extract pos s.size) with
     | true =>
      rw [hrp] at hbd
      change bad s pos = false at hbd
      rw [hbd, if_neg (by decide)] at hleft
      have HW := uH HW
      rw [hrp] at HW
      have HW := zH HW
      have HL := zH hleft
      clear hleft hb1 hb2 hb3 hc hbd hrp
      have HR := zH (show (R : Int) = 65533 by omega)
      clear hRe
      go_wp2_with fail
      refine (uH HC).mono ?_
      rintro e W' ⟨rfl, rfl⟩
      have hRi := uH HR
      go_wp2_with fail
      refine (uH HW).mono ?_
      rintro e W' ⟨rfl, rfl⟩
      go_wp2
      go_roundg g'
      case measure => omega
      case rel => exact ⟨pos + K, hit2, hbw2, uH HL, by omega⟩
     | false =>
      rw [hrp] at hbd
      change bad s pos = true at hbd
      rw [hbd, if_pos rfl] at hleft
      have HW := uH HW
      rw [hrp] at HW
      have HW := zH HW
      have HL := zH hleft
      clear hleft hb1 hb2 hb3 hc hbd hrp
      have HR := zH (show (R : Int) = 65533 by omega)
      clear hRe
      go_wp2_with fail
      refine (uH HC).mono ?_
      rintro e W' ⟨rfl, rfl⟩
      have hRi := uH HR
      go_wp2_with fail
      refine (uH HW).mono ?_
      rintro e W' ⟨rfl, rfl⟩
      go_wp2
      go_ret
      exact ⟨ret_int (uH HL), hbw2⟩
    ·
     rw [hb2 hc hRe, if_neg (by decide)] at hleft
     have HL := zH hleft
     clear hleft hb1 hb2 hb3 hc HW
     have hRi : ¬ (R : Int) = 65533 := by omega
     go_wp2_with fail
     refine (uH HC).mono ?_
     rintro e W' ⟨rfl, rfl⟩
     go_wp2
     go_roundg g'
     case measure => omega
     case rel => exact ⟨pos + K, hit2, hbw2, uH HL, by omega⟩
  ·
   have hnx : ∀ ty, (Instr.next (.pointer (some ⟨w.heap.size, 0, none⟩)) true ty).run Tryz.prog wr = _ := fun ty => Lib.run_next_end_at wr w.heap.size s pos ty hit hps
   rw [fltF_end s gk pos hps] at hleft
   go_wp2
   go_ret
   exact ⟨by rw [← hleft] <;> rfl, hbw⟩
end Go.Proofs.YtiknnobgoamgcaaGreatDoor
/-
  Contracts of Go's library at this program: the kit's, laid by its own command.
-/
namespace Go.Proofs
open Go.Shelf
def Tryz.lays169_ren : Go.Shelf.Ren := ⟨fun | 169 => 20 | n => n, fun | 70 => 38 | 9 => 9 | 0 => 0 | 72 => 41 | 37 => 39 | 127 => 58 | 3 => 3 | 5 => 5 | n => n, fun | n => n⟩
theorem Tryz.lays169 : Go.Proofs.Lays.n169 Tryz.prog Tryz.lays169_ren := {
 mixed := by kernel_rfl
 f169 := Tryz.func20.trans (congrArg some (by kernel_rfl))
 t0 := Tryz.underlying0
 a0 := Tryz.isAgg0
 z0 := Tryz.sizeOf0
 v0 := Tryz.zeroValue0
 t3 := Tryz.underlying3
 a3 := Tryz.isAgg3
 z3 := Tryz.sizeOf3
 v3 := Tryz.zeroValue3
 t9 := Tryz.underlying9
 a9 := Tryz.isAgg9
 z9 := Tryz.sizeOf9
 v9 := Tryz.zeroValue9
 t37 := Tryz.underlying39
 a37 := Tryz.isAgg39
 z37 := Tryz.sizeOf39
 v37 := Tryz.zeroValue39
 t70 := Tryz.underlying38
 a70 := Tryz.isAgg38
 z70 := Tryz.sizeOf38
 v70 := Tryz.zeroValue38
 t72 := Tryz.underlying41
 a72 := Tryz.isAgg41
 z72 := Tryz.sizeOf41
 v72 := Tryz.zeroValue41
 t127 := Tryz.underlying58
 a127 := Tryz.isAgg58
 z127 := Tryz.sizeOf58
 v127 := Tryz.zeroValue58 }
theorem Tryz.Builder_Extra_169 : Builder.Extra Tryz.prog Tryz.lays169_ren := {
 sizeBuilder := by kernel_rfl
 liesBuilder := by kernel_rfl
 t5 := Tryz.underlying5
 a5 := Tryz.isAgg5
 z5 := Tryz.sizeOf5
 v5 := Tryz.zeroValue5
 infoByte := by kernel_rfl
 cellsByte := by kernel_rfl
 sizeByte := by kernel_rfl
 neB5 := by decide }
def Tryz.lays119_ren : Go.Shelf.Ren := ⟨fun | 119 => 161 | n => n, fun | 21 => 21 | 4 => 4 | n => n, fun | n => n⟩
theorem Tryz.lays119 : Go.Proofs.Lays.n119 Tryz.prog Tryz.lays119_ren := {
 mixed := by kernel_rfl
 f119 := Tryz.func161.trans (congrArg some (by kernel_rfl))
 t4 := Tryz.underlying4
 a4 := Tryz.isAgg4
 z4 := Tryz.sizeOf4
 v4 := Tryz.zeroValue4
 t21 := Tryz.underlying21
 a21 := Tryz.isAgg21
 z21 := Tryz.sizeOf21
 v21 := Tryz.zeroValue21 }
theorem Tryz.utf8_ValidRune (r : Int) (w : World) :
  Calls Tryz.prog 161 #[.int .i32 r] w fun e w' => e = .returned (.bool (Lib.validRune r)) ∧ w' = w := Any.utf8_ValidRune Tryz.lays119 r w
def Tryz.lays137_ren : Go.Shelf.Ren := ⟨fun | 137 => 160 | 217 => 145 | 266 => 158 | n => n, fun | 9 => 9 | 5 => 5 | 3 => 3 | n => n, fun | n => n⟩
theorem Tryz.lays137 : Go.Proofs.Lays.n137 Tryz.prog Tryz.lays137_ren := {
 mixed := by kernel_rfl
 f137 := Tryz.func160.trans (congrArg some (by kernel_rfl))
 f217 := Tryz.func145.trans (congrArg some (by kernel_rfl))
 f266 := Tryz.func158.trans (congrArg some (by kernel_rfl))
 t3 := Tryz.underlying3
 a3 := Tryz.isAgg3
 z3 := Tryz.sizeOf3
 v3 := Tryz.zeroValue3
 t5 := Tryz.underlying5
 a5 := Tryz.isAgg5
 z5 := Tryz.sizeOf5
 v5 := Tryz.zeroValue5
 t9 := Tryz.underlying9
 a9 := Tryz.isAgg9
 z9 := Tryz.sizeOf9
 v9 := Tryz.zeroValue9 }
open Go.RowKit in
theorem Tryz.strings_IndexByte (s : ByteArray) (c : Int) (w : World) :
  Calls Tryz.prog 160 #[.string s, .int .u8 c] w fun e w' => e = .returned (.int .i64 (Lib.indexByte s.data.toList c.toNat.toUInt8)) ∧ w' = w := Any.strings_IndexByte Tryz.lays137 s c w
open Go.RowKit in
theorem Tryz.Builder_String_any_k (B b : Nat) (l : List UInt8) (w : World) (h : Lib.IsBuilderF 41 5 B b (Lib.byteCells l) w) (hBw : B ≤ w.heap.size) :
  Calls Tryz.prog 20 #[.pointer (some ⟨b, 0, none⟩)] w fun e w' => e = .returned (.string ⟨l.toArray⟩) ∧ (Lib.IsBuilderF 41 5 B b (Lib.byteCells l) w' ∧ Below B w w' ∧ Lib.OthersKept 5 (some b) w w') := Any.Builder_String_any_k Tryz.lays169 Tryz.Builder_Extra_169 B b l w h hBw
def Tryz.lays219_ren : Go.Shelf.Ren := ⟨fun | 219 => 131 | 217 => 145 | 225 => 146 | 224 => 147 | 267 => 148 | 266 => 158 | 314 => 159 | n => n, fun | 9 => 9 | 3 => 3 | 4 => 4 | 5 => 5 | 46 => 109 | 146 => 117 | 51 => 116 | n => n, fun | 1 => 1 | n => n⟩
theorem Tryz.lays219 : Go.Proofs.Lays.n219 Tryz.prog Tryz.lays219_ren := {
 mixed := by kernel_rfl
 f217 := Tryz.func145.trans (congrArg some (by kernel_rfl))
 f219 := Tryz.func131.trans (congrArg some (by kernel_rfl))
 f224 := Tryz.func147.trans (congrArg some (by kernel_rfl))
 f225 := Tryz.func146.trans (congrArg some (by kernel_rfl))
 f266 := Tryz.func158.trans (congrArg some (by kernel_rfl))
 f267 := Tryz.func148.trans (congrArg some (by kernel_rfl))
 f314 := Tryz.func159.trans (congrArg some (by kernel_rfl))
 t3 := Tryz.underlying3
 a3 := Tryz.isAgg3
 z3 := Tryz.sizeOf3
 v3 := Tryz.zeroValue3
 t4 := Tryz.underlying4
 a4 := Tryz.isAgg4
 z4 := Tryz.sizeOf4
 v4 := Tryz.zeroValue4
 t5 := Tryz.underlying5
 a5 := Tryz.isAgg5
 z5 := Tryz.sizeOf5
 v5 := Tryz.zeroValue5
 t9 := Tryz.underlying9
 a9 := Tryz.isAgg9
 z9 := Tryz.sizeOf9
 v9 := Tryz.zeroValue9
 t46 := Tryz.underlying109
 a46 := Tryz.isAgg109
 z46 := Tryz.sizeOf109
 v46 := Tryz.zeroValue109
 t51 := Tryz.underlying116
 a51 := Tryz.isAgg116
 z51 := Tryz.sizeOf116
 v51 := Tryz.zeroValue116
 t146 := Tryz.underlying117
 a146 := Tryz.isAgg117
 z146 := Tryz.sizeOf117
 v146 := Tryz.zeroValue117
 g1 := by kernel_rfl }
open Go.RowKit Go.Lib in
theorem Tryz.stringslite_Index_one (s : ByteArray) (c : UInt8) (w : World) :
  Calls Tryz.prog 131 #[.string s, .string ⟨#[c]⟩] w fun e w' => e = .returned (.int .i64 (Lib.indexByte s.data.toList c)) ∧ w' = w := Any.stringslite_Index_one Tryz.lays219 s c w
def Tryz.lays152_ren : Go.Shelf.Ren := ⟨fun | 152 => 149 | 137 => 160 | 119 => 161 | 224 => 147 | 225 => 146 | 217 => 145 | 266 => 158 | n => n, fun | 9 => 9 | 21 => 21 | 3 => 3 | 4 => 4 | 5 => 5 | 0 => 0 | 46 => 109 | n => n, fun | n => n⟩
theorem Tryz.lays152 : Go.Proofs.Lays.n152 Tryz.prog Tryz.lays152_ren := {
 mixed := by kernel_rfl
 f119 := Tryz.func161.trans (congrArg some (by kernel_rfl))
 f137 := Tryz.func160.trans (congrArg some (by kernel_rfl))
 f152 := Tryz.func149.trans (congrArg some (by kernel_rfl))
 f217 := Tryz.func145.trans (congrArg some (by kernel_rfl))
 f224 := Tryz.func147.trans (congrArg some (by kernel_rfl))
 f225 := Tryz.func146.trans (congrArg some (by kernel_rfl))
 f266 := Tryz.func158.trans (congrArg some (by kernel_rfl))
 t0 := Tryz.underlying0
 a0 := Tryz.isAgg0
 z0 := Tryz.sizeOf0
 v0 := Tryz.zeroValue0
 t3 := Tryz.underlying3
 a3 := Tryz.isAgg3
 z3 := Tryz.sizeOf3
 v3 := Tryz.zeroValue3
 t4 := Tryz.underlying4
 a4 := Tryz.isAgg4
 z4 := Tryz.sizeOf4
 v4 := Tryz.zeroValue4
 t5 := Tryz.underlying5
 a5 := Tryz.isAgg5
 z5 := Tryz.sizeOf5
 v5 := Tryz.zeroValue5
 t9 := Tryz.underlying9
 a9 := Tryz.isAgg9
 z9 := Tryz.sizeOf9
 v9 := Tryz.zeroValue9
 t21 := Tryz.underlying21
 a21 := Tryz.isAgg21
 z21 := Tryz.sizeOf21
 v21 := Tryz.zeroValue21
 t46 := Tryz.underlying109
 a46 := Tryz.isAgg109
 z46 := Tryz.sizeOf109
 v46 := Tryz.zeroValue109 }
open Go.RowKit Go.Lib in
theorem Tryz.strings_IndexRune_ascii (s : ByteArray) (r : Int) (w : World) (h0 : 0 ≤ r) (h1 : r < 128) :
  Calls Tryz.prog 149 #[.string s, .int .i32 r] w fun e w' => e = .returned (.int .i64 (Lib.indexByte s.data.toList r.toNat.toUInt8)) ∧ w' = w := Any.strings_IndexRune_ascii Tryz.lays152 s r w h0 h1
def Tryz.lays153_ren : Go.Shelf.Ren := ⟨fun | 153 => 135 | 152 => 149 | 226 => 150 | 227 => 151 | 228 => 152 | 137 => 160 | 119 => 161 | 224 => 147 | 225 => 146 | 217 => 145 | 266 => 158 | n => n, fun | 9 => 9 | 3 => 3 | 4 => 4 | 5 => 5 | 21 => 21 | 117 => 113 | 116 => 112 | 0 => 0 | 46 => 109 | 124 => 119 | n => n, fun | n => n⟩
theorem Tryz.lays153 : Go.Proofs.Lays.n153 Tryz.prog Tryz.lays153_ren := {
 mixed := by kernel_rfl
 f119 := Tryz.func161.trans (congrArg some (by kernel_rfl))
 f137 := Tryz.func160.trans (congrArg some (by kernel_rfl))
 f152 := Tryz.func149.trans (congrArg some (by kernel_rfl))
 f153 := Tryz.func135.trans (congrArg some (by kernel_rfl))
 f217 := Tryz.func145.trans (congrArg some (by kernel_rfl))
 f224 := Tryz.func147.trans (congrArg some (by kernel_rfl))
 f225 := Tryz.func146.trans (congrArg some (by kernel_rfl))
 f226 := Tryz.func150.trans (congrArg some (by kernel_rfl))
 f227 := Tryz.func151.trans (congrArg some (by kernel_rfl))
 f228 := Tryz.func152.trans (congrArg some (by kernel_rfl))
 f266 := Tryz.func158.trans (congrArg some (by kernel_rfl))
 t0 := Tryz.underlying0
 a0 := Tryz.isAgg0
 z0 := Tryz.sizeOf0
 v0 := Tryz.zeroValue0
 t3 := Tryz.underlying3
 a3 := Tryz.isAgg3
 z3 := Tryz.sizeOf3
 v3 := Tryz.zeroValue3
 t4 := Tryz.underlying4
 a4 := Tryz.isAgg4
 z4 := Tryz.sizeOf4
 v4 := Tryz.zeroValue4
 t5 := Tryz.underlying5
 a5 := Tryz.isAgg5
 z5 := Tryz.sizeOf5
 v5 := Tryz.zeroValue5
 t9 := Tryz.underlying9
 a9 := Tryz.isAgg9
 z9 := Tryz.sizeOf9
 v9 := Tryz.zeroValue9
 t21 := Tryz.underlying21
 a21 := Tryz.isAgg21
 z21 := Tryz.sizeOf21
 v21 := Tryz.zeroValue21
 t46 := Tryz.underlying109
 a46 := Tryz.isAgg109
 z46 := Tryz.sizeOf109
 v46 := Tryz.zeroValue109
 t116 := Tryz.underlying112
 a116 := Tryz.isAgg112
 z116 := Tryz.sizeOf112
 t117 := Tryz.underlying113
 a117 := Tryz.isAgg113
 z117 := Tryz.sizeOf113
 v117 := Tryz.zeroValue113
 t124 := Tryz.underlying119
 a124 := Tryz.isAgg119
 z124 := Tryz.sizeOf119
 v124 := Tryz.zeroValue119 }
open Go.RowKit Go.Lib in
theorem Tryz.strings_IndexAny_long (hv116 : ∀ w, (zeroValue 112).run Tryz.prog w = .ok (.agg (Array.replicate 256 (.bool false))) w) (s chars : ByteArray) (w : World) (h2 : 2 ≤ chars.size) (h8 : 8 < s.size) (hs : s.size < 4294967281) (hcs : chars.size < 4294967281) (hascii : ∀ (j : Nat) b, chars.data.toList[j]? = some b → b.toNat < 128) :
  Calls Tryz.prog 135 #[.string s, .string chars] w fun e w' => e = .returned (.int .i64 (Lib.indexAny s.data.toList chars.data.toList)) ∧ w' = ((w.alloc (.cells (Lib.setCells chars.data.toList) 112)).alloc (.cells (Lib.setCells chars.data.toList) 112)) := Any.strings_IndexAny_long Tryz.lays153 hv116 (by kernel_rfl) s chars w h2 h8 hs hcs hascii
end Go.Proofs

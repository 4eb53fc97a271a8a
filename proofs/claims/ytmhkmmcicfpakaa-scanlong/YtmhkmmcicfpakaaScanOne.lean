/-
  The reference's scanner.one, whatever begins.
-/
import Derived.Test.YtmhkmmcicfpakaaScanOneA
import Derived.Test.YtmhkmmcicfpakaaScanOneB
import Derived.Test.YtmhkmmcicfpakaaScanOneC
import Derived.Test.YtmhkmmcicfpakaaScanOneD
import Derived.Test.YtmhkmmcicfpakaaScanOneE
namespace Go.Proofs.Ytmhkmmcicfpakaa
open Go.RowKit
/-- What begins where it stands: whether something does, and what is then. -/
def Sc.one (s : ByteArray) (x : Sc) : Bool × Sc :=
  if byteAt s x.p = 32 ∨ byteAt s x.p = 9 then (true, ⟨x.p + 1, x.line, x.l, x.c⟩)
  else if byteAt s x.p = 10 then (true, ⟨x.p + 1, x.line + 1, x.semi.l, x.c⟩)
  else if byteAt s x.p = 59 then (true, x.add s 6 (x.p + 1))
  else if byteAt s x.p = 47 then (x.isCom s, x.comment s)
  else if byteAt s x.p = 34 then (strB s x.p, if strB s x.p then x.add s 3 (qN s (x.p + 1) + 1) else x)
  else if digB (byteAt s x.p) then (numB s x.p, if numB s x.p then x.add s 2 (toN s false x.p) else x)
  else if letB (byteAt s x.p) then (decide (toN s true x.p - x.p ≤ 24), if toN s true x.p - x.p ≤ 24 then x.add s (if isKey (s.extract x.p (toN s true x.p)) then 5 else 1) (toN s true x.p) else x)
  else (decide (opN s x.p ≠ 0), if opN s x.p ≠ 0 then x.add s 4 (x.p + opN s x.p) else x)
theorem scOne_any (w : World) (base g : Nat) (s : ByteArray) (x : Sc) (hx : ScSt w base g s x) (hp : x.p < s.size) (hs : s.size ≤ 1000000) (hl : x.l.length ≤ 900000) (hcl : x.c.length ≤ 900000) (hln : x.line ≤ 1000000) :
    Calls Try.prog 23 #[.pointer (some ⟨g, 0, none⟩)] w fun e w' => e = .returned (.bool (x.one s).1) ∧ ScSt w' base g s (x.one s).2 ∧ Below base w w' := by
  by_cases h1 : byteAt s x.p = 32
  · have e : x.one s = (true, ⟨x.p + 1, x.line, x.l, x.c⟩) := by rw [Sc.one, if_pos (.inl h1)]
    rw [e]
    exact one_blank w base g s x hx hp hs hl h1
  by_cases h2 : byteAt s x.p = 9
  · have e : x.one s = (true, ⟨x.p + 1, x.line, x.l, x.c⟩) := by rw [Sc.one, if_pos (.inr h2)]
    rw [e]
    exact one_tab w base g s x hx hp hs hl h2
  have h12 : ¬ (byteAt s x.p = 32 ∨ byteAt s x.p = 9) := by omega
  by_cases h3 : byteAt s x.p = 10
  · have e : x.one s = (true, ⟨x.p + 1, x.line + 1, x.semi.l, x.c⟩) := by rw [Sc.one, if_neg h12, if_pos h3]
    rw [e]
    exact one_nl w base g s x hx hp hs hl hln h3
  by_cases h4 : byteAt s x.p = 59
  · have e : x.one s = (true, x.add s 6 (x.p + 1)) := by rw [Sc.one, if_neg h12, if_neg h3, if_pos h4]
    rw [e]
    exact one_semi w base g s x hx hp hs hl h4
  by_cases h5 : byteAt s x.p = 47
  · have e : x.one s = (x.isCom s, x.comment s) := by rw [Sc.one, if_neg h12, if_neg h3, if_neg h4, if_pos h5]
    rw [e]
    exact one_slash w base g s x hx hp hs hl hcl h5
  by_cases h6 : byteAt s x.p = 34
  · have e : x.one s = (strB s x.p, if strB s x.p then x.add s 3 (qN s (x.p + 1) + 1) else x) := by rw [Sc.one, if_neg h12, if_neg h3, if_neg h4, if_neg h5, if_pos h6]
    rw [e]
    exact one_str w base g s x hx hp hs hl h6
  cases h7 : digB (byteAt s x.p) with
  | true =>
    have e : x.one s = (numB s x.p, if numB s x.p then x.add s 2 (toN s false x.p) else x) := by rw [Sc.one, if_neg h12, if_neg h3, if_neg h4, if_neg h5, if_neg h6, if_pos h7]
    rw [e]
    exact one_num w base g s x hx hp hs hl h7
  | false =>
    have h7' : ¬ digB (byteAt s x.p) = true := by rw [h7]; decide
    cases h8 : letB (byteAt s x.p) with
    | true =>
      have e : x.one s = (decide (toN s true x.p - x.p ≤ 24), if toN s true x.p - x.p ≤ 24 then x.add s (if isKey (s.extract x.p (toN s true x.p)) then 5 else 1) (toN s true x.p) else x) := by rw [Sc.one, if_neg h12, if_neg h3, if_neg h4, if_neg h5, if_neg h6, if_neg h7', if_pos h8]
      rw [e]
      exact one_word w base g s x hx hp hs hl h7 h8
    | false =>
      have h8' : ¬ letB (byteAt s x.p) = true := by rw [h8]; decide
      have e : x.one s = (decide (opN s x.p ≠ 0), if opN s x.p ≠ 0 then x.add s 4 (x.p + opN s x.p) else x) := by rw [Sc.one, if_neg h12, if_neg h3, if_neg h4, if_neg h5, if_neg h6, if_neg h7', if_neg h8']
      rw [e]
      exact one_op w base g s x hx hp hs hl h7 h8 ⟨h1, h2, h3, h4, h5, h6⟩
/-- It goes on, within its text, and makes at most two tokens and one comment. -/
theorem one_goes (s : ByteArray) (x : Sc) (hp : x.p < s.size) (h : (x.one s).1 = true) : x.p < (x.one s).2.p ∧ (x.one s).2.p ≤ s.size ∧ (x.one s).2.l.length ≤ x.l.length + 1 ∧ (x.one s).2.c.length ≤ x.c.length + 1 ∧ (x.one s).2.line ≤ x.line + 1 := by
  have hsr := semi_rest x
  have hnl := nlN_range (s := s) (a := x.p) (by omega)
  have ht := toN_range (s := s) (wd := false) (a := x.p) (by omega)
  have hu := toN_range (s := s) (wd := true) (a := x.p) (by omega)
  revert h
  unfold Sc.one
  split
  · intro _; exact ⟨by simp, by simp; omega, by simp, by simp, by simp⟩
  split
  · intro _; exact ⟨by simp, by simp; omega, by simpa using hsr.2.2.2, by simp, by simp⟩
  split
  · intro _; exact ⟨by simp [Sc.add], by simp [Sc.add]; omega, by simp [Sc.add], by simp [Sc.add], by simp [Sc.add]⟩
  split
  · rename_i h47
    intro h
    have hc : x.comment s = x.com s := by rw [Sc.comment, if_pos h]
    dsimp only
    rw [hc]
    refine ⟨?_, hnl.2, hsr.2.2.2, by simp [Sc.com], by simp [Sc.com]⟩
    show x.p < nlN s x.p
    rw [nlN_step hp (by omega)]
    have := (nlN_range (s := s) (a := x.p + 1) (by omega)).1
    omega
  split
  · intro h
    dsimp only at h ⊢
    rw [if_pos h]
    have hq : qN s (x.p + 1) < s.size := by
      rw [strB, Bool.and_eq_true, decide_eq_true_eq] at h
      exact h.1
    have hq2 : x.p + 1 ≤ qN s (x.p + 1) := qN_ge s _
    exact ⟨by simp [Sc.add]; omega, by simp [Sc.add]; omega, by simp [Sc.add], by simp [Sc.add], by simp [Sc.add]⟩
  split
  · rename_i hd
    intro h
    dsimp only at h ⊢
    rw [if_pos h]
    have h1 : toN s false x.p = toN s false (x.p + 1) := toN_step hp (by rw [clsB, hd]; rfl)
    have h2 := (toN_range (s := s) (wd := false) (a := x.p + 1) (by omega)).1
    exact ⟨by simp only [Sc.add]; omega, by simp only [Sc.add]; omega, by simp [Sc.add], by simp [Sc.add], by simp [Sc.add]⟩
  split
  · rename_i hd hl
    intro h
    dsimp only at h ⊢
    rw [if_pos (of_decide_eq_true h)]
    have h1 : toN s true x.p = toN s true (x.p + 1) := toN_step hp (by rw [clsB, hl]; simp)
    have h2 := (toN_range (s := s) (wd := true) (a := x.p + 1) (by omega)).1
    exact ⟨by simp only [Sc.add]; omega, by simp only [Sc.add]; omega, by simp [Sc.add], by simp [Sc.add], by simp [Sc.add]⟩
  · intro h
    dsimp only at h ⊢
    have h := of_decide_eq_true h
    rw [if_pos h]
    have hle : x.p + opN s x.p ≤ s.size := by
      unfold opN
      split
      · rename_i h; rw [Bool.and_eq_true, decide_eq_true_eq] at h; exact h.1
      · split <;> omega
    exact ⟨by simp only [Sc.add]; omega, by simp only [Sc.add]; exact hle, by simp [Sc.add], by simp [Sc.add], by simp [Sc.add]⟩
end Go.Proofs.Ytmhkmmcicfpakaa

/-
  The reference's scanner.to.
-/
import Derived.Test.YtmhkmmcicfpakaaScanSt
import Derived.Test.YtmhkmmcicfpakaaRefKey
import Derived.LoopTactic
namespace Go.Proofs.Ytmhkmmcicfpakaa
open Go.RowKit
set_option linter.unusedSimpArgs false
/-- A byte of a number, or of a word. -/
def clsB (wd : Bool) (c : Nat) : Bool := digB c || (wd && letB c)
def toF (s : ByteArray) (wd : Bool) : Nat → Nat → Nat
  | 0, a => a
  | f + 1, a => if a < s.size ∧ clsB wd (byteAt s a) = true then toF s wd f (a + 1) else a
/-- The first place from a on whose byte is none. -/
def toN (s : ByteArray) (wd : Bool) (a : Nat) : Nat := toF s wd (s.size - a) a
theorem toN_step {s : ByteArray} {wd : Bool} {a : Nat} (h : a < s.size) (hc : clsB wd (byteAt s a) = true) : toN s wd a = toN s wd (a + 1) := by
  unfold toN
  obtain ⟨k, hk⟩ : ∃ k, s.size - a = k + 1 := ⟨s.size - a - 1, by omega⟩
  rw [hk, show s.size - (a + 1) = k by omega, toF, if_pos ⟨h, hc⟩]
theorem toN_stop {s : ByteArray} {wd : Bool} {a : Nat} (hc : clsB wd (byteAt s a) = false) : toN s wd a = a := by
  unfold toN
  cases s.size - a with
  | zero => rfl
  | succ k => rw [toF, if_neg (fun h => by rw [hc] at h; cases h.2)]
theorem toN_end {s : ByteArray} {wd : Bool} {a : Nat} (h : s.size ≤ a) : toN s wd a = a := by
  unfold toN
  rw [show s.size - a = 0 by omega, toF]
theorem toF_range (s : ByteArray) (wd : Bool) : ∀ (f a : Nat), a + f = s.size → a ≤ toF s wd f a ∧ toF s wd f a ≤ s.size := by
  intro f
  induction f with
  | zero => intro a h; simp only [toF]; omega
  | succ f ih =>
    intro a h
    rw [toF]
    split
    · have := ih (a + 1) (by omega); omega
    · omega
theorem toN_range {s : ByteArray} {wd : Bool} {a : Nat} (h : a ≤ s.size) : a ≤ toN s wd a ∧ toN s wd a ≤ s.size := toF_range s wd _ _ (by omega)
set_option maxHeartbeats 1000000 in
set_option maxRecDepth 100000 in
theorem scTo_any (w : World) (base g : Nat) (s : ByteArray) (x : Sc) (a : Nat) (wd : Bool) (hx : ScSt w base g s x) (ha : a ≤ s.size) (hs : s.size ≤ 1000000) :
    Calls Try.prog 33 #[.pointer (some ⟨g, 0, none⟩), .int .i64 a, .bool wd] w fun e w' => e = .returned (.int .i64 (toN s wd a)) ∧ w' = w := by
  obtain ⟨vl, vc, h0, _, _, _⟩ := hx
  obtain ⟨x0, x1, x2, x3, x4⟩ := scCells h0
  clear h0
  go_enter Try.func33, Try.ntmps33
  go_wp2
  go_loopw [1] (fun ks wr => ∃ k : Nat, k ≤ s.size ∧ ks = .int .i64 k ∧ wr = w ∧ toN s wd k = toN s wd a) (fun ks _ => s.size - (intOf ks).toNat)
  case atStart => exact ⟨a, ha, rfl, rfl, rfl⟩
  case round =>
    obtain ⟨k, hk, rfl, rfl, hall⟩ := hrel
    by_cases hlt : k < s.size
    · have hik : ∀ h, (s[k]'h).toNat = byteAt s k := fun h => byteAt_idx s k h
      have HD := rDigit_any (byteAt s k) wr (byteAt_lt s k)
      have HL := rLetter_any (byteAt s k) wr (byteAt_lt s k)
      cases hd : digB (byteAt s k) with
      | true =>
        have hst := toN_step (wd := wd) hlt (by rw [clsB, hd]; rfl)
        rw [hst] at hall
        rw [hd] at HD
        replace HD := hide HD
        replace hall := hide hall
        clear HL hd hst
        go_wp2_with fail
        refine (unhide HD).mono ?_
        rintro e W ⟨rfl, rfl⟩
        go_wp2
        go_roundw
        case rel => exact ⟨k + 1, by omega, by go_num, by trivial, unhide hall⟩
        case measure => simp [intOf]; omega
      | false =>
        rw [hd] at HD
        replace HD := hide HD
        cases wd with
        | false =>
          have hst := toN_stop (s := s) (wd := false) (a := k) (by rw [clsB, hd]; rfl)
          rw [hst] at hall
          replace hall := hide hall
          clear HL hd hst
          go_wp2_with fail
          refine (unhide HD).mono ?_
          rintro e W ⟨rfl, rfl⟩
          go_wp2
          go_ret
          exact ⟨ret_int (by rw [← unhide hall]), rfl⟩
        | true =>
          cases hl : letB (byteAt s k) with
          | true =>
            have hst := toN_step (wd := true) hlt (by rw [clsB, hd, hl]; rfl)
            rw [hst] at hall
            rw [hl] at HL
            replace HL := hide HL
            replace hall := hide hall
            clear hd hst hl
            go_wp2_with fail
            refine (unhide HD).mono ?_
            rintro e W ⟨rfl, rfl⟩
            go_wp2_with fail
            refine (unhide HL).mono ?_
            rintro e W ⟨rfl, rfl⟩
            go_wp2
            go_roundw
            case rel => exact ⟨k + 1, by omega, by go_num, by trivial, unhide hall⟩
            case measure => simp [intOf]; omega
          | false =>
            have hst := toN_stop (s := s) (wd := true) (a := k) (by rw [clsB, hd, hl]; rfl)
            rw [hst] at hall
            rw [hl] at HL
            replace HL := hide HL
            replace hall := hide hall
            clear hd hst hl
            go_wp2_with fail
            refine (unhide HD).mono ?_
            rintro e W ⟨rfl, rfl⟩
            go_wp2_with fail
            refine (unhide HL).mono ?_
            rintro e W ⟨rfl, rfl⟩
            go_wp2
            go_ret
            exact ⟨ret_int (by rw [← unhide hall]), rfl⟩
    · have hst := toN_end (s := s) (wd := wd) (a := k) (by omega)
      rw [hst] at hall
      replace hall := hide hall
      clear hst
      go_wp2
      go_ret
      exact ⟨ret_int (by rw [← unhide hall]), rfl⟩
end Go.Proofs.Ytmhkmmcicfpakaa

/-
  The program's May.
-/
import Derived.Test.YtpjpghigilbfaaaOwnEd
import Derived.Test.YtpjpghigilbfaaaWrap
import Derived.Deep.LoopGhost
import Derived.BigQuiet
import Derived.WalkSmall
namespace Go.Proofs.Ytpjpghigilbfaaa
open Go.RowKit
set_option linter.unusedSimpArgs false
set_option linter.unusedVariables false
/-- Where the one ahead of the k-th ends. -/
def endK (l : List Ed) : Nat → Int
  | 0 => -1
  | k + 1 => (l.getD k ed0).p + (l.getD k ed0).n
theorem mayK_end {l : List Ed} {z : Int} {k : Nat} (h : mayK l z k = true) :
    mayK l z (k + 1) = true ↔ endK l k < (l.getD k ed0).p ∧ (l.getD k ed0).p ≤ z ∧ 0 ≤ (l.getD k ed0).n ∧ (l.getD k ed0).n ≤ z - (l.getD k ed0).p := by
  rw [mayK, h, Bool.true_and, Bool.and_eq_true, Bool.or_eq_true, okE_iff]
  cases k with
  | zero => simp only [endK]; constructor
            · rintro ⟨⟨h1, h2, h3, h4⟩, _⟩; exact ⟨by omega, h3, h2, h4⟩
            · rintro ⟨h1, h2, h3, h4⟩; exact ⟨⟨by omega, h3, h2, h4⟩, .inl rfl⟩
  | succ j =>
    have hd := okE_iff.1 (mayK_at (Nat.lt_succ_self j) h).1
    rw [Nat.add_sub_cancel, gapE_iff, endK]
    constructor
    · rintro ⟨⟨h1, h2, h3, h4⟩, h5⟩
      rcases h5 with h5 | h5
      · simp at h5
      · exact ⟨by omega, h3, h2, h4⟩
    · rintro ⟨h1, h2, h3, h4⟩
      exact ⟨⟨by omega, h3, h2, h4⟩, .inr ⟨by omega, by omega⟩⟩
theorem mayK_end_false {l : List Ed} {z : Int} {k n : Nat} (h : mayK l z k = true) (hk : k < n) (hn : ¬ (endK l k < (l.getD k ed0).p ∧ (l.getD k ed0).p ≤ z ∧ 0 ≤ (l.getD k ed0).n ∧ (l.getD k ed0).n ≤ z - (l.getD k ed0).p)) : mayK l z n = false := by
  refine mayK_not (show k + 1 ≤ n from hk) ?_
  cases hm : mayK l z (k + 1) with
  | false => rfl
  | true => exact absurd ((mayK_end h).1 hm) hn
theorem endK_ge {l : List Ed} {z : Int} {k : Nat} (h : mayK l z k = true) : -1 ≤ endK l k := by
  cases k with
  | zero => exact Int.le_refl _
  | succ j => have hd := okE_iff.1 (mayK_at (Nat.lt_succ_self j) h).1
              rw [endK]; omega
set_option maxHeartbeats 8000000 in
set_option maxRecDepth 100000 in
theorem pMay_any (v : Value) (L : List Ed) (z : Int) (w : World) (h : Eds w v L) (hl : L.length ≤ 1000000) (hz : 0 ≤ z ∧ z ≤ 9223372036854775807)
    (hr : ∀ e ∈ L, (-9223372036854775808 ≤ e.p ∧ e.p ≤ 9223372036854775807) ∧ (-9223372036854775808 ≤ e.n ∧ e.n ≤ 9223372036854775807)) :
    Calls Try.prog 26 #[v, .int .i64 z] w fun e w' => e = .returned (.bool (mayB L z)) ∧ Below w.heap.size w w' := by
  obtain ⟨a, c, rfl, h1, h2, h3⟩ := h
  unfold maxLen at h2
  obtain ⟨n, hn⟩ : ∃ n, L.length = n := ⟨_, rfl⟩
  have hmay : Hid (mayB L z = mayK L z n) := hide (by rw [mayB, hn])
  rw [hn] at hl h1 h3 ⊢
  replace h3 := hide h3
  replace hr := hide hr
  go_enter Try.func26, Try.ntmps26
  go_wp2
  go_loopg [5, 10] n (fun gf s5 s10 wx => ∃ i : Nat, s5 = .int .i64 (endK L i) ∧ s10 = .int .i64 i ∧ i + gf = n ∧ mayK L z i = true ∧ Below w.heap.size w wx)
  case atStart => exact ⟨0, rfl, rfl, by omega, rfl, Below.refl _ _⟩
  case round =>
    obtain ⟨i, rfl, rfl, hi, hm, hbw⟩ := hrel
    by_cases hlt : i < n
    · have hlz : (i : Int) < n := by omega
      obtain ⟨g', rfl⟩ : ∃ g', gk = g' + 1 := ⟨gk - 1, by omega⟩
      obtain ⟨g, off, rfl, hg, hc⟩ := unhide h3 (by omega)
      have hmem : L.getD i ed0 ∈ L := by
        have : i < L.length := by omega
        simp [List.getD, this]
      have hri := unhide hr _ hmem
      have hyes := hide (fun hh => (mayK_end hm).2 hh)
      have hno := hide (fun hh => mayK_end_false hm hlt hh)
      have hge := endK_ge hm
      have hend : Hid (endK L (i + 1) = (L.getD i ed0).p + (L.getD i ed0).n) := hide rfl
      obtain ⟨x0, x1, x2⟩ := (hc i hlt).below hg hbw
      clear hc
      generalize hE : L.getD i ed0 = E at *
      obtain ⟨ep, en, es⟩ := E
      dsimp only at *
      obtain ⟨⟨r1, r2⟩, r3, r4⟩ := hri
      clear hmem hE
      generalize endK L i = d at *
      replace hm := hide hm
      go_wp2
      all_goals
        have hba := hbw.alloc hbw.size (.cells #[.int .i64 ep, .int .i64 en, .string es] 29 (0, 0))
        first
        | (go_ret; exact ⟨ret_bool (by rw [unhide hmay, unhide hno (by omega)]), hba⟩)
        | (refine Handed.intro g' (by omega) ?_
           go_roundg g'
           case measure => omega
           case rel => exact ⟨i + 1, by rw [unhide hend], by go_num, by omega, unhide hyes ⟨by omega, by omega, by omega, by omega⟩, hba⟩)
        | (go_roundg g'
           case measure => omega
           case rel => exact ⟨i + 1, by rw [unhide hend], by go_num, by omega, unhide hyes ⟨by omega, by omega, by omega, by omega⟩, hba⟩)
    · have hlz : ¬ (i : Int) < n := by omega
      obtain rfl : i = n := by omega
      replace hm := hide hm
      go_wp2
      go_ret
      exact ⟨ret_bool (by rw [unhide hmay, unhide hm]), hbw⟩
end Go.Proofs.Ytpjpghigilbfaaa

/-
  The walks of package scan: letter, digit, span, sign, number, named.
-/
import Derived.Test.YtakllllnpdnpdaaScMath
import Derived.LoopTactic
import Derived.Test.YtakllllnpdnpdaaNameKey
import Derived.Test.YtakllllnpdnpdaaTokKey
namespace Go.Proofs.Ytakllllnpdnpdaa
open Go.RowKit
set_option linter.unusedSimpArgs false
set_option maxHeartbeats 400000 in
set_option maxRecDepth 100000 in
theorem scLetter_any (c : Nat) (w : World) (hc : c < 256) :
    Calls Try.prog 28 #[.int .u8 c] w fun e w' => e = .returned (.bool (letB c)) ∧ w' = w := by
  go_enter Try.func28, Try.ntmps28
  go_wp2
  all_goals
    go_ret
    refine ⟨ret_bool ?_, rfl⟩
    rw [Bool.eq_iff_iff]
    simp only [let_iff, Bool.or_eq_true, Bool.and_eq_true, decide_eq_true_eq, beq_iff_eq, Bool.false_eq_true, ne_eq, true_iff, false_iff]
    omega
set_option maxHeartbeats 400000 in
set_option maxRecDepth 100000 in
theorem scDigit_any (c : Nat) (w : World) (hc : c < 256) :
    Calls Try.prog 30 #[.int .u8 c] w fun e w' => e = .returned (.bool (digB c)) ∧ w' = w := by
  go_enter Try.func30, Try.ntmps30
  go_wp2
  all_goals
    go_ret
    refine ⟨ret_bool ?_, rfl⟩
    rw [Bool.eq_iff_iff]
    simp only [digB, Bool.or_eq_true, Bool.and_eq_true, decide_eq_true_eq, beq_iff_eq, Bool.false_eq_true, ne_eq, true_iff, false_iff]
    omega
set_option maxHeartbeats 400000 in
set_option maxRecDepth 100000 in
theorem scNamed1_any (c : Nat) (w : World) (hc : c < 256) :
    Calls Try.prog 36 #[.int .u8 c] w fun e w' => e = .returned (.bool (clsB true c)) ∧ w' = w := by
  have HL := fun w => scLetter_any c w hc
  have HD := fun w => scDigit_any c w hc
  have he : clsB true c = (letB c || digB c) := by rw [clsB, Bool.true_and, Bool.or_comm]
  rw [he]
  clear he
  generalize letB c = x at *
  generalize digB c = y at *
  replace HL := hide HL
  replace HD := hide HD
  go_enter Try.func36, Try.ntmps36
  go_wp2_with fail
  refine (unhide HL _).mono ?_
  rintro e W ⟨rfl, rfl⟩
  cases x with
  | true =>
    go_wp2
    go_ret
    exact ⟨rfl, rfl⟩
  | false =>
    go_wp2_with fail
    refine (unhide HD _).mono ?_
    rintro e W ⟨rfl, rfl⟩
    go_wp2
    go_ret
    exact ⟨rfl, rfl⟩
set_option maxHeartbeats 1000000 in
set_option maxRecDepth 100000 in
theorem scSpan_dig (s : ByteArray) (w : World) (hs : s.size ≤ maxLen) :
    Calls Try.prog 35 #[.string s, .func (.func 30) #[] #[]] w fun e w' => e = .returned (.int .i64 (toN s false 0)) ∧ w' = w := by
  unfold maxLen at hs
  go_enter Try.func35, Try.ntmps35
  go_wp2
  go_loopw [5] (fun ks wr => ∃ k : Nat, k ≤ s.size ∧ ks = .int .i64 k ∧ wr = w ∧ toN s false k = toN s false 0) (fun ks _ => s.size - (intOf ks).toNat)
  case atStart => exact ⟨0, Nat.zero_le _, rfl, rfl, rfl⟩
  case round =>
    obtain ⟨i, hi, rfl, rfl, hall⟩ := hrel
    by_cases hlt : i < s.size
    · have hik : ∀ h, (s[i]'h).toNat = byteAt s i := fun h => byteAt_idx s i h
      have HD := scDigit_any (byteAt s i) wr (byteAt_lt s i)
      rw [show digB (byteAt s i) = clsB false (byteAt s i) by simp [clsB]] at HD
      cases hd : clsB false (byteAt s i) with
      | true =>
        have hst := toN_step (wd := false) hlt hd
        rw [hst] at hall
        rw [hd] at HD
        replace HD := hide HD
        replace hall := hide hall
        clear hst hd
        go_wp2_with fail
        refine (unhide HD).mono ?_
        rintro e W ⟨rfl, rfl⟩
        go_wp2
        go_roundw
        case rel => exact ⟨i + 1, by omega, by go_num, by trivial, unhide hall⟩
        case measure => simp [intOf]; omega
      | false =>
        rw [toN_stop hd] at hall
        rw [hd] at HD
        replace HD := hide HD
        replace hall := hide hall
        clear hd
        go_wp2_with fail
        refine (unhide HD).mono ?_
        rintro e W ⟨rfl, rfl⟩
        go_wp2
        go_ret
        exact ⟨ret_int (unhide hall ▸ rfl), rfl⟩
    · rw [toN_end (by omega)] at hall
      replace hall := hide hall
      go_wp2
      go_ret
      exact ⟨ret_int (unhide hall ▸ rfl), rfl⟩
set_option maxHeartbeats 1000000 in
set_option maxRecDepth 100000 in
theorem scSpan_word (s : ByteArray) (w : World) (hs : s.size ≤ maxLen) :
    Calls Try.prog 35 #[.string s, .func (.func 36) #[] #[]] w fun e w' => e = .returned (.int .i64 (toN s true 0)) ∧ w' = w := by
  unfold maxLen at hs
  go_enter Try.func35, Try.ntmps35
  go_wp2
  go_loopw [5] (fun ks wr => ∃ k : Nat, k ≤ s.size ∧ ks = .int .i64 k ∧ wr = w ∧ toN s true k = toN s true 0) (fun ks _ => s.size - (intOf ks).toNat)
  case atStart => exact ⟨0, Nat.zero_le _, rfl, rfl, rfl⟩
  case round =>
    obtain ⟨i, hi, rfl, rfl, hall⟩ := hrel
    by_cases hlt : i < s.size
    · have hik : ∀ h, (s[i]'h).toNat = byteAt s i := fun h => byteAt_idx s i h
      have HD := scNamed1_any (byteAt s i) wr (byteAt_lt s i)
      cases hd : clsB true (byteAt s i) with
      | true =>
        have hst := toN_step (wd := true) hlt hd
        rw [hst] at hall
        rw [hd] at HD
        replace HD := hide HD
        replace hall := hide hall
        clear hst hd
        go_wp2_with fail
        refine (unhide HD).mono ?_
        rintro e W ⟨rfl, rfl⟩
        go_wp2
        go_roundw
        case rel => exact ⟨i + 1, by omega, by go_num, by trivial, unhide hall⟩
        case measure => simp [intOf]; omega
      | false =>
        rw [toN_stop hd] at hall
        rw [hd] at HD
        replace HD := hide HD
        replace hall := hide hall
        clear hd
        go_wp2_with fail
        refine (unhide HD).mono ?_
        rintro e W ⟨rfl, rfl⟩
        go_wp2
        go_ret
        exact ⟨ret_int (unhide hall ▸ rfl), rfl⟩
    · rw [toN_end (by omega)] at hall
      replace hall := hide hall
      go_wp2
      go_ret
      exact ⟨ret_int (unhide hall ▸ rfl), rfl⟩
/-- How long an operator begins, of at most so many bytes. -/
def opD (s : ByteArray) : Nat → Nat
  | 0 => 0
  | n + 1 => if isOp (s.extract 0 (n + 1)) then n + 1 else opD s n
theorem opD_le (s : ByteArray) : ∀ n, opD s n ≤ n := by
  intro n
  induction n with
  | zero => exact Nat.le_refl _
  | succ n ih => rw [opD]; split <;> omega
set_option maxHeartbeats 1000000 in
set_option maxRecDepth 100000 in
theorem scSign_any (s : ByteArray) (w : World) (h0 : 0 < s.size) (hs : s.size ≤ maxLen) :
    Calls Try.prog 33 #[.string s] w fun e w' => e = .returned (.int .i64 (opD s (min 2 s.size))) ∧ w' = w := by
  unfold maxLen at hs
  have HO := fun n w => tOp_any (s.extract 0 n) w
  replace HO := hide HO
  obtain ⟨m, hm⟩ : ∃ m, min 2 s.size = m := ⟨_, rfl⟩
  have hm1 : m ≤ 2 := by omega
  have hm2 : m ≤ s.size := by omega
  have hm3 : min 2 (s.size : Int) = m := by omega
  rw [hm]
  by_cases h2 : (2 : Int) ≤ s.size
  all_goals
    go_enter Try.func33, Try.ntmps33
    go_wp2
    go_loopw [3] (fun ks wr => ∃ n : Nat, ks = .int .i64 n ∧ wr = w ∧ n ≤ m ∧ opD s n = opD s m) (fun ks _ => (intOf ks).toNat)
    case atStart =>
      exact ⟨m, by first | rfl | (congr 1; omega), rfl, by omega, rfl⟩
    case round =>
      obtain ⟨n, rfl, rfl, hn, hall⟩ := hrel
      by_cases h3 : n = 0
      · subst h3
        rw [opD] at hall
        replace hall := hide hall
        go_wp2
        go_ret
        exact ⟨ret_int (by rw [← unhide hall]; rfl), rfl⟩
      · obtain ⟨n', rfl⟩ : ∃ n', n = n' + 1 := ⟨n - 1, by omega⟩
        rw [opD] at hall
        have H := unhide HO (n' + 1) wr
        cases hb : isOp (s.extract 0 (n' + 1)) with
        | true =>
          rw [hb] at H hall
          rw [if_pos rfl] at hall
          replace hall := hide hall
          replace H := hide H
          clear HO hb
          go_wp2_with fail
          refine (unhide H).mono ?_
          rintro e W ⟨rfl, rfl⟩
          go_wp2
          go_ret
          exact ⟨ret_int (by rw [← unhide hall]; rfl), rfl⟩
        | false =>
          rw [hb] at H hall
          rw [if_neg (by decide)] at hall
          replace hall := hide hall
          replace H := hide H
          clear HO hb
          go_wp2_with fail
          refine (unhide H).mono ?_
          rintro e W ⟨rfl, rfl⟩
          go_wp2
          go_roundw
          case rel => exact ⟨n', by go_num, by trivial, by omega, unhide hall⟩
          case measure => simp [intOf]
/-- What a number's length is; nought: none may be. -/
def numZ (s : ByteArray) : Nat := if 12 < toN s false 0 ∨ (byteAt s 0 = 48 ∧ 1 < toN s false 0) ∨ (toN s false 0 < s.size ∧ letB (byteAt s (toN s false 0)) = true) then 0 else toN s false 0
set_option maxHeartbeats 1000000 in
set_option maxRecDepth 100000 in
theorem scNumber_any (s : ByteArray) (w : World) (h0 : 0 < s.size) (hs : s.size ≤ maxLen) :
    Calls Try.prog 31 #[.string s] w fun e w' => e = .returned (.int .i64 (numZ s)) ∧ w' = w := by
  have HS := scSpan_dig s w hs
  have hr := toN_range (s := s) (wd := false) (a := 0) (by omega)
  have hz : numZ s = if 12 < toN s false 0 ∨ (byteAt s 0 = 48 ∧ 1 < toN s false 0) ∨ (toN s false 0 < s.size ∧ letB (byteAt s (toN s false 0)) = true) then 0 else toN s false 0 := rfl
  generalize numZ s = z at *
  generalize toN s false 0 = t at *
  unfold maxLen at hs
  have hi0 : ∀ h, (s[0]'h).toNat = byteAt s 0 := fun h => byteAt_idx s 0 h
  have hit : ∀ h, (s[t]'h).toNat = byteAt s t := fun h => byteAt_idx s t h
  have HL := fun w => scLetter_any (byteAt s t) w (byteAt_lt s t)
  have hb0 := byteAt_lt s 0
  have hbt := byteAt_lt s t
  generalize letB (byteAt s t) = y at *
  generalize byteAt s 0 = b at *
  generalize byteAt s t = c at *
  replace HS := hide HS
  replace HL := hide HL
  replace hz := hide hz
  by_cases h1 : (b : Int) = 48
  all_goals
    by_cases h2 : t < s.size
    · go_enter Try.func31, Try.ntmps31
      go_wp2_with fail
      refine (unhide HS).mono ?_
      rintro e W ⟨rfl, rfl⟩
      go_wp2_with fail
      refine (unhide HL _).mono ?_
      rintro e W ⟨rfl, rfl⟩
      cases y
      all_goals go_wp2
      all_goals
        go_ret
        refine ⟨ret_int ?_, rfl⟩
        have hz := unhide hz
        first
          | (rw [if_pos (by first | omega | (simp; omega))] at hz; rw [hz]; rfl)
          | (rw [if_neg (by first | omega | (simp; omega))] at hz; rw [hz])
    · go_enter Try.func31, Try.ntmps31
      go_wp2_with fail
      refine (unhide HS).mono ?_
      rintro e W ⟨rfl, rfl⟩
      go_wp2
      all_goals
        go_ret
        refine ⟨ret_int ?_, rfl⟩
        have hz := unhide hz
        first
          | (rw [if_pos (by first | omega | (simp; omega))] at hz; rw [hz]; rfl)
          | (rw [if_neg (by first | omega | (simp; omega))] at hz; rw [hz])
def namZ (s : ByteArray) : Nat := if 24 < toN s true 0 then 0 else toN s true 0
def namK (s : ByteArray) : Int := if 24 < toN s true 0 then 1 else if isKey (s.extract 0 (toN s true 0)) then 5 else 1
set_option maxHeartbeats 1000000 in
set_option maxRecDepth 100000 in
theorem scNamed_any (s : ByteArray) (w : World) (h0 : 0 < s.size) (hs : s.size ≤ maxLen) :
    Calls Try.prog 29 #[.string s] w fun e w' => e = .returned (.tuple #[.int .i64 (namK s), .int .i64 (namZ s)]) ∧ w' = w := by
  have HS := scSpan_word s w hs
  have hr := toN_range (s := s) (wd := true) (a := 0) (by omega)
  have HK := fun w => nKey_any (s.extract 0 (toN s true 0)) w
  unfold namZ namK
  generalize isKey (s.extract 0 (toN s true 0)) = k at *
  generalize toN s true 0 = t at *
  unfold maxLen at hs
  replace HS := hide HS
  replace HK := hide HK
  by_cases h1 : 24 < t
  · rw [if_pos h1, if_pos h1]
    clear HK
    go_enter Try.func29, Try.ntmps29
    go_wp2_with fail
    refine (unhide HS).mono ?_
    rintro e W ⟨rfl, rfl⟩
    go_wp2
    go_ret2
    exact ⟨rfl, rfl⟩
  · rw [if_neg h1, if_neg h1]
    go_enter Try.func29, Try.ntmps29
    go_wp2_with fail
    refine (unhide HS).mono ?_
    rintro e W ⟨rfl, rfl⟩
    go_wp2_with fail
    refine (unhide HK _).mono ?_
    rintro e W ⟨rfl, rfl⟩
    cases k
    all_goals go_wp2
    all_goals
      go_ret2
      exact ⟨rfl, rfl⟩
end Go.Proofs.Ytakllllnpdnpdaa

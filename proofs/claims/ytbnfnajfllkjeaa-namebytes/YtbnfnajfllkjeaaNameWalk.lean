/-
  The walks of package name: Key, World, small, digit, word, filed, Is, File.
-/
import Derived.Test.YtbnfnajfllkjeaaCutS
import Derived.Test.YtbnfnajfllkjeaaNameMath
import Derived.LoopTactic
namespace Go.Proofs.Ytbnfnajfllkjeaa
open Go.RowKit
set_option linter.unusedSimpArgs false
set_option maxHeartbeats 2000000 in
set_option maxRecDepth 100000 in
theorem nKey_any (s : ByteArray) (w : World) :
    Calls Try.prog 11 #[.string s] w fun e w' => e = .returned (.bool (isKey s)) ∧ w' = w := by
  go_enter Try.func11, Try.ntmps11
  go_wp2
  all_goals
    go_ret
    refine ⟨ret_bool ?_, rfl⟩
    simp only [ByteArray.toList_eq] at *
    simp_all only [isKey, inB, keysB, List.any_cons, List.any_nil, Bool.true_or, Bool.false_or, Bool.or_true, Bool.or_false, Bool.false_eq_true, Bool.true_eq_false]
set_option maxHeartbeats 2000000 in
set_option maxRecDepth 100000 in
theorem nWorld_any (s : ByteArray) (w : World) :
    Calls Try.prog 13 #[.string s] w fun e w' => e = .returned (.int .i64 (worldN s)) ∧ w' = w := by
  go_enter Try.func13, Try.ntmps13
  go_wp2
  all_goals
    go_ret
    refine ⟨ret_int ?_, rfl⟩
    simp only [ByteArray.toList_eq] at *
    simp_all only [worldN, idxB, worldB, if_true, if_false, Bool.false_eq_true, Bool.true_eq_false]
    try rfl
set_option maxHeartbeats 400000 in
set_option maxRecDepth 100000 in
theorem small_any (c : Nat) (w : World) (hc : c < 256) :
    Calls Try.prog 23 #[.int .u8 c] w fun e w' => e = .returned (.bool (lowB c)) ∧ w' = w := by
  go_enter Try.func23, Try.ntmps23
  go_wp2
  all_goals
    go_ret
    refine ⟨ret_bool ?_, rfl⟩
    rw [Bool.eq_iff_iff]
    simp only [lowB, Bool.or_eq_true, Bool.and_eq_true, decide_eq_true_eq, beq_iff_eq, Bool.false_eq_true, ne_eq, true_iff, false_iff]
    omega
set_option maxHeartbeats 400000 in
set_option maxRecDepth 100000 in
theorem digit_any (c : Nat) (w : World) (hc : c < 256) :
    Calls Try.prog 17 #[.int .u8 c] w fun e w' => e = .returned (.bool (digB c)) ∧ w' = w := by
  go_enter Try.func17, Try.ntmps17
  go_wp2
  all_goals
    go_ret
    refine ⟨ret_bool ?_, rfl⟩
    rw [Bool.eq_iff_iff]
    simp only [digB, Bool.or_eq_true, Bool.and_eq_true, decide_eq_true_eq, beq_iff_eq, Bool.false_eq_true, ne_eq, true_iff, false_iff]
    omega
theorem low_iff (c : Nat) : lowB c = true ↔ 97 ≤ c ∧ c ≤ 122 := by simp [lowB]
theorem dig_iff (c : Nat) : digB c = true ↔ 48 ≤ c ∧ c ≤ 57 := by simp [digB]
theorem word_iff (c : Nat) : wordB c = true ↔ (c = 95 ∨ 97 ≤ c ∧ c ≤ 122 ∨ 65 ≤ c ∧ c ≤ 90 ∨ 48 ≤ c ∧ c ≤ 57) := by simp [wordB, letB, lowB, digB, or_assoc]
theorem let_iff (c : Nat) : letB c = true ↔ (c = 95 ∨ 97 ≤ c ∧ c ≤ 122 ∨ 65 ≤ c ∧ c ≤ 90) := by simp [letB, lowB, or_assoc]
theorem file_iff (c : Nat) : fileB c = true ↔ (97 ≤ c ∧ c ≤ 122 ∨ 48 ≤ c ∧ c ≤ 57 ∨ c = 46 ∨ c = 45 ∨ c = 95) := by simp [fileB, lowB, digB, or_assoc]
theorem not_true {b : Bool} {p : Prop} (h : b = true ↔ p) (hb : b = false) : ¬ p := fun hp => by rw [h.2 hp] at hb; cases hb
theorem is_false {b : Bool} {p : Prop} (h : b = true ↔ p) (hp : ¬ p) : b = false := by
  cases hb : b with
  | false => rfl
  | true => exact absurd (h.1 hb) hp
set_option maxHeartbeats 400000 in
set_option maxRecDepth 100000 in
theorem word_any (c : Nat) (w : World) (hc : c < 256) :
    Calls Try.prog 18 #[.int .u8 c] w fun e w' => e = .returned (.bool (wordB c)) ∧ w' = w := by
  have HS := small_any c w hc
  have HD := digit_any c w hc
  have hwi := word_iff c
  cases hl : lowB c with
  | true =>
    have h1 := (low_iff c).1 hl
    rw [hl] at HS
    rw [hwi.2 (by omega)]
    have HS := hide HS
    clear HD hl hwi
    go_enter Try.func18, Try.ntmps18
    go_wp2_with fail
    refine (unhide HS).mono ?_
    rintro e W ⟨rfl, rfl⟩
    go_wp2
    go_ret
    exact ⟨rfl, rfl⟩
  | false =>
    have h1 := not_true (low_iff c) hl
    rw [hl] at HS
    have HS := hide HS
    by_cases h2 : 65 ≤ c ∧ c ≤ 90
    · rw [hwi.2 (by omega)]
      clear HD hl hwi
      go_enter Try.func18, Try.ntmps18
      go_wp2_with fail
      refine (unhide HS).mono ?_
      rintro e W ⟨rfl, rfl⟩
      go_wp2
      go_ret
      exact ⟨rfl, rfl⟩
    · by_cases h3 : c = 95
      · rw [hwi.2 (by omega)]
        clear HD hl hwi
        subst h3
        go_enter Try.func18, Try.ntmps18
        go_wp2_with fail
        refine (unhide HS).mono ?_
        rintro e W ⟨rfl, rfl⟩
        go_wp2
        go_ret
        exact ⟨rfl, rfl⟩
      · rw [show wordB c = digB c by rw [Bool.eq_iff_iff, hwi, dig_iff]; omega]
        have HD := hide HD
        clear hl hwi
        have h3' : ¬ (c : Int) = 95 := by omega
        by_cases h4 : 65 ≤ c
        · have h5 : ¬ c ≤ 90 := by omega
          go_enter Try.func18, Try.ntmps18
          go_wp2_with fail
          refine (unhide HS).mono ?_
          rintro e W ⟨rfl, rfl⟩
          go_wp2_with fail
          refine (unhide HD).mono ?_
          rintro e W' ⟨rfl, rfl⟩
          go_wp2
          go_ret
          refine ⟨ret_bool ?_, rfl⟩
          rw [Bool.eq_iff_iff]
          simp only [Bool.or_eq_true, decide_eq_true_eq, beq_iff_eq, dig_iff]
          omega
        · go_enter Try.func18, Try.ntmps18
          go_wp2_with fail
          refine (unhide HS).mono ?_
          rintro e W ⟨rfl, rfl⟩
          go_wp2_with fail
          refine (unhide HD).mono ?_
          rintro e W' ⟨rfl, rfl⟩
          go_wp2
          go_ret
          refine ⟨ret_bool ?_, rfl⟩
          rw [Bool.eq_iff_iff]
          simp only [Bool.or_eq_true, decide_eq_true_eq, beq_iff_eq, dig_iff]
          omega
set_option maxHeartbeats 400000 in
set_option maxRecDepth 100000 in
theorem filed_any (c : Nat) (w : World) (hc : c < 256) :
    Calls Try.prog 22 #[.int .u8 c] w fun e w' => e = .returned (.bool (fileB c)) ∧ w' = w := by
  have HS := small_any c w hc
  have HD := digit_any c w hc
  have hwi := file_iff c
  cases hl : lowB c with
  | true =>
    have h1 := (low_iff c).1 hl
    rw [hl] at HS
    rw [hwi.2 (by omega)]
    have HS := hide HS
    clear HD hl hwi
    go_enter Try.func22, Try.ntmps22
    go_wp2_with fail
    refine (unhide HS).mono ?_
    rintro e W ⟨rfl, rfl⟩
    go_wp2
    go_ret
    exact ⟨rfl, rfl⟩
  | false =>
    have h1 := not_true (low_iff c) hl
    rw [hl] at HS
    have HS := hide HS
    cases hd : digB c with
    | true =>
      have h2 := (dig_iff c).1 hd
      rw [hwi.2 (by omega)]
      rw [hd] at HD
      have HD := hide HD
      clear hl hwi hd
      go_enter Try.func22, Try.ntmps22
      go_wp2_with fail
      refine (unhide HS).mono ?_
      rintro e W ⟨rfl, rfl⟩
      go_wp2_with fail
      refine (unhide HD).mono ?_
      rintro e W' ⟨rfl, rfl⟩
      go_wp2
      go_ret
      exact ⟨rfl, rfl⟩
    | false =>
      have h2 := not_true (dig_iff c) hd
      rw [hd] at HD
      have HD := hide HD
      have HI := hide hwi
      clear hl hwi hd
      go_enter Try.func22, Try.ntmps22
      go_wp2_with fail
      refine (unhide HS).mono ?_
      rintro e W ⟨rfl, rfl⟩
      go_wp2_with fail
      refine (unhide HD).mono ?_
      rintro e W' ⟨rfl, rfl⟩
      go_wp2
      all_goals
        go_ret
        refine ⟨ret_bool ?_, rfl⟩
        rw [Bool.eq_iff_iff, unhide HI]
        simp only [Bool.or_eq_true, decide_eq_true_eq, beq_iff_eq, Bool.false_eq_true, false_or, true_iff, false_iff]
        omega
theorem empty_of {s : ByteArray} (h : s.size = 0) : s = ⟨#[]⟩ := ByteArray.ext (Array.eq_empty_of_size_eq_zero h)
theorem notEmpty_of {s : ByteArray} (h : ¬ s.size = 0) : s.toList.isEmpty = false := by
  rw [ByteArray.toList_eq]
  cases hl : s.data.toList with
  | nil => exact absurd (show s.size = 0 by show s.data.size = 0; rw [← Array.length_toList, hl]; rfl) h
  | cons _ _ => rfl
set_option maxHeartbeats 2000000 in
set_option maxRecDepth 100000 in
theorem nIs_any (s : ByteArray) (w : World) (hs : s.size ≤ maxLen) :
    Calls Try.prog 9 #[.string s] w fun e w' => e = .returned (.bool (isN s)) ∧ w' = w := by
  unfold maxLen at hs
  by_cases h0 : s.size = 0
  · rw [empty_of h0, show isN ⟨#[]⟩ = false by kernel_rfl]
    clear h0 hs
    go_enter Try.func9, Try.ntmps9
    go_wp2
    go_ret
    exact ⟨rfl, rfl⟩
  have hne := notEmpty_of h0
  by_cases h1 : 24 < s.size
  · rw [isN, decide_eq_false (show ¬ s.size ≤ 24 by omega), Bool.and_false, Bool.false_and, Bool.false_and, Bool.false_and]
    go_enter Try.func9, Try.ntmps9
    go_wp2
    go_ret
    exact ⟨rfl, rfl⟩
  have hi0 : ∀ h, (s[0]'h).toNat = byteAt s 0 := fun h => byteAt_idx s 0 h
  have HD := digit_any (byteAt s 0) w (byteAt_lt s 0)
  have HK := nKey_any s w
  cases hd : digB (byteAt s 0) with
  | true =>
    rw [isN, hd]
    rw [hd] at HD
    have HD := hide HD
    clear hd HK
    go_enter Try.func9, Try.ntmps9
    go_wp2_with fail
    refine (unhide HD).mono ?_
    rintro e W ⟨rfl, rfl⟩
    go_wp2
    go_ret
    exact ⟨ret_bool (by simp), rfl⟩
  | false =>
    rw [hd] at HD
    have HD := hide HD
    cases hk : isKey s with
    | true =>
      rw [isN, hk]
      rw [hk] at HK
      have HK := hide HK
      clear hd hk
      go_enter Try.func9, Try.ntmps9
      go_wp2_with fail
      refine (unhide HD).mono ?_
      rintro e W ⟨rfl, rfl⟩
      go_wp2_with fail
      refine (unhide HK).mono ?_
      rintro e W ⟨rfl, rfl⟩
      go_wp2
      go_ret
      exact ⟨ret_bool (by simp), rfl⟩
    | false =>
      rw [isN, hd, hk, decide_eq_true (show 1 ≤ s.size by omega), decide_eq_true (show s.size ≤ 24 by omega)]
      rw [hk] at HK
      have HK := hide HK
      clear hd hk
      simp only [Bool.true_and, Bool.not_false]
      go_enter Try.func9, Try.ntmps9
      go_wp2_with fail
      refine (unhide HD).mono ?_
      rintro e W ⟨rfl, rfl⟩
      go_wp2_with fail
      refine (unhide HK).mono ?_
      rintro e W ⟨rfl, rfl⟩
      go_wp2
      go_loopw [22] (fun ks wr => ∃ k : Nat, k ≤ s.size ∧ ks = .int .i64 k ∧ wr = W ∧ ∀ i, i < k → wordB (byteAt s i) = true) (fun ks _ => s.size - (intOf ks).toNat)
      case atStart => exact ⟨0, by omega, rfl, rfl, fun i hi => by omega⟩
      case round =>
        obtain ⟨k, hk, rfl, rfl, hall⟩ := hrel
        clear HD HK hi0
        by_cases hlt : k < s.size
        · have hik : ∀ h, (s[k]'h).toNat = byteAt s k := fun h => byteAt_idx s k h
          have HW := word_any (byteAt s k) wr (byteAt_lt s k)
          cases hw : wordB (byteAt s k) with
          | true =>
            rw [hw] at HW
            have HW := hide HW
            have hall := hide hall
            have hw := hide hw
            go_wp2_with fail
            refine (unhide HW).mono ?_
            rintro e W ⟨rfl, rfl⟩
            go_wp2
            go_roundw
            case rel =>
              refine ⟨k + 1, by omega, by go_num, by trivial, fun i hi => ?_⟩
              rcases Nat.lt_or_ge i k with h | h
              · exact unhide hall i h
              · obtain rfl : i = k := by omega
                exact unhide hw
            case measure => simp [intOf]; omega
          | false =>
            rw [hw] at HW
            have HW := hide HW
            have hw := hide hw
            clear hall
            go_wp2_with fail
            refine (unhide HW).mono ?_
            rintro e W ⟨rfl, rfl⟩
            go_wp2
            go_ret
            exact ⟨ret_bool (allB_false k hlt (unhide hw)).symm, rfl⟩
        · obtain rfl : k = s.size := by omega
          have hall := hide hall
          go_wp2
          go_ret
          exact ⟨ret_bool (allB_true (unhide hall)).symm, rfl⟩
set_option maxHeartbeats 2000000 in
set_option maxRecDepth 100000 in
theorem nFile_any (s : ByteArray) (w : World) (hs : s.size ≤ maxLen) :
    Calls Try.prog 15 #[.string s] w fun e w' => e = .returned (.bool (fileN s)) ∧ w' = w := by
  unfold maxLen at hs
  by_cases h0 : s.size = 0
  · rw [empty_of h0, show fileN ⟨#[]⟩ = false by kernel_rfl]
    clear h0 hs
    go_enter Try.func15, Try.ntmps15
    go_wp2
    go_ret
    exact ⟨rfl, rfl⟩
  have hne := notEmpty_of h0
  by_cases h1 : 16 < s.size
  · rw [fileN, decide_eq_false (show ¬ s.size ≤ 16 by omega), Bool.and_false, Bool.false_and, Bool.false_and]
    go_enter Try.func15, Try.ntmps15
    go_wp2
    go_ret
    exact ⟨rfl, rfl⟩
  have hi0 : ∀ h, (s[0]'h).toNat = byteAt s 0 := fun h => byteAt_idx s 0 h
  have hb0 := byteAt_lt s 0
  by_cases hd : byteAt s 0 = 46
  · rw [fileN, decide_eq_true hd]
    rw [hd] at hi0
    clear hd hb0
    go_enter Try.func15, Try.ntmps15
    go_wp2
    go_ret
    exact ⟨ret_bool (by simp), rfl⟩
  rw [fileN, decide_eq_false hd, decide_eq_true (show 1 ≤ s.size by omega), decide_eq_true (show s.size ≤ 16 by omega)]
  simp only [Bool.true_and, Bool.not_false]
  have hd' : (((byteAt s 0 : Nat) : Int) == 46) = false := beq_eq_false_iff_ne.2 (by omega)
  clear hd
  go_enter Try.func15, Try.ntmps15
  go_wp2
  go_loopw [18] (fun ks wr => ∃ k : Nat, k ≤ s.size ∧ ks = .int .i64 k ∧ wr = w ∧ ∀ i, i < k → fileB (byteAt s i) = true) (fun ks _ => s.size - (intOf ks).toNat)
  case atStart => exact ⟨0, by omega, rfl, rfl, fun i hi => by omega⟩
  case round =>
    obtain ⟨k, hk, rfl, rfl, hall⟩ := hrel
    clear hi0
    by_cases hlt : k < s.size
    · have hik : ∀ h, (s[k]'h).toNat = byteAt s k := fun h => byteAt_idx s k h
      have HW := filed_any (byteAt s k) wr (byteAt_lt s k)
      cases hw : fileB (byteAt s k) with
      | true =>
        rw [hw] at HW
        have HW := hide HW
        have hall := hide hall
        have hw := hide hw
        go_wp2_with fail
        refine (unhide HW).mono ?_
        rintro e W ⟨rfl, rfl⟩
        go_wp2
        go_roundw
        case rel =>
          refine ⟨k + 1, by omega, by go_num, by trivial, fun i hi => ?_⟩
          rcases Nat.lt_or_ge i k with h | h
          · exact unhide hall i h
          · obtain rfl : i = k := by omega
            exact unhide hw
        case measure => simp [intOf]; omega
      | false =>
        rw [hw] at HW
        have HW := hide HW
        have hw := hide hw
        clear hall
        go_wp2_with fail
        refine (unhide HW).mono ?_
        rintro e W ⟨rfl, rfl⟩
        go_wp2
        go_ret
        exact ⟨ret_bool (allB_false k hlt (unhide hw)).symm, rfl⟩
    · obtain rfl : k = s.size := by omega
      have hall := hide hall
      go_wp2
      go_ret
      exact ⟨ret_bool (allB_true (unhide hall)).symm, rfl⟩
end Go.Proofs.Ytbnfnajfllkjeaa

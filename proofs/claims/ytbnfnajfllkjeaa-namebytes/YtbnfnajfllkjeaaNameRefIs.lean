/-
  The reference's Is and FileName.
-/
import Derived.Test.YtbnfnajfllkjeaaNameRefs
namespace Go.Proofs.Ytbnfnajfllkjeaa
open Go.RowKit
set_option linter.unusedSimpArgs false
set_option maxHeartbeats 2000000 in
set_option maxRecDepth 100000 in
theorem rIs_any (s : ByteArray) (w : World) (hs : s.size ≤ maxLen) :
    Calls Try.prog 10 #[.string s] w fun e w' => e = .returned (.bool (isN s)) ∧ Below w.heap.size w w' := by
  unfold maxLen at hs
  by_cases h0 : s.size = 0
  · rw [empty_of h0, show isN ⟨#[]⟩ = false by kernel_rfl]
    clear h0 hs
    go_enter Try.func10, Try.ntmps10
    go_wp2
    go_ret
    exact ⟨rfl, Below.refl _ _⟩
  by_cases h1 : 24 < s.size
  · rw [isN, decide_eq_false (show ¬ s.size ≤ 24 by omega), Bool.and_false, Bool.false_and, Bool.false_and, Bool.false_and]
    go_enter Try.func10, Try.ntmps10
    go_wp2
    go_ret
    exact ⟨rfl, Below.refl _ _⟩
  have hi0 : ∀ h, (s[0]'h).toNat = byteAt s 0 := fun h => byteAt_idx s 0 h
  have HD := rDigit_any (byteAt s 0) w (byteAt_lt s 0)
  have HK := rKey_any s w
  cases hd : digB (byteAt s 0) with
  | true =>
    rw [isN, hd]
    rw [hd] at HD
    have HD := hide HD
    clear hd HK
    go_enter Try.func10, Try.ntmps10
    go_wp2_with fail
    refine (unhide HD).mono ?_
    rintro e W ⟨rfl, rfl⟩
    go_wp2
    go_ret
    exact ⟨ret_bool (by simp), Below.refl _ _⟩
  | false =>
    rw [hd] at HD
    have HD := hide HD
    cases hk : isKey s with
    | true =>
      rw [isN, hk]
      rw [hk] at HK
      have HK := hide HK
      clear hd hk
      go_enter Try.func10, Try.ntmps10
      go_wp2_with fail
      refine (unhide HD).mono ?_
      rintro e W ⟨rfl, rfl⟩
      go_wp2_with fail
      refine (unhide HK).mono ?_
      rintro e W' ⟨rfl, hb⟩
      go_wp2
      go_ret
      exact ⟨ret_bool (by simp), hb⟩
    | false =>
      rw [isN, hd, hk, decide_eq_true (show 1 ≤ s.size by omega), decide_eq_true (show s.size ≤ 24 by omega)]
      rw [hk] at HK
      have HK := hide HK
      clear hd hk
      simp only [Bool.true_and, Bool.not_false]
      go_enter Try.func10, Try.ntmps10
      go_wp2_with fail
      refine (unhide HD).mono ?_
      rintro e W0 ⟨rfl, rfl⟩
      go_wp2_with fail
      refine (unhide HK).mono ?_
      rintro e W ⟨rfl, hb⟩
      go_wp2
      go_loopw [3] (fun ks wr => ∃ k : Nat, k ≤ s.size ∧ ks = .int .i64 k ∧ wr = W ∧ ∀ i, i < k → wordB (byteAt s i) = true) (fun ks _ => s.size - (intOf ks).toNat)
      case atStart => exact ⟨0, by omega, rfl, rfl, fun i hi => by omega⟩
      case round =>
        obtain ⟨k, hk, rfl, rfl, hall⟩ := hrel
        clear HD HK hi0
        by_cases hlt : k < s.size
        · have hik : ∀ h, (s[k]'h).toNat = byteAt s k := fun h => byteAt_idx s k h
          have HL := rLetter_any (byteAt s k) wr (byteAt_lt s k)
          have HG := rDigit_any (byteAt s k) wr (byteAt_lt s k)
          have hall := hide hall
          cases hl : letB (byteAt s k) with
          | true =>
            rw [hl] at HL
            have HL := hide HL
            clear HG
            have hw := hide (show wordB (byteAt s k) = true by rw [wordB, hl, Bool.true_or])
            clear hl
            go_wp2_with fail
            refine (unhide HL).mono ?_
            rintro e W' ⟨rfl, rfl⟩
            go_wp2
            go_roundw
            case rel =>
              refine ⟨k + 1, by omega, by go_num, by trivial, fun i hi => ?_⟩
              rcases Nat.lt_or_ge i k with h | h
              · exact unhide hall i h
              · obtain rfl : i = k := by omega
                exact unhide hw
            case measure => simp [intOf]; omega
          | false =>
            rw [hl] at HL
            have HL := hide HL
            cases hg : digB (byteAt s k) with
            | true =>
              rw [hg] at HG
              have HG := hide HG
              have hw := hide (show wordB (byteAt s k) = true by rw [wordB, hg, Bool.or_true])
              clear hl hg
              go_wp2_with fail
              refine (unhide HL).mono ?_
              rintro e W' ⟨rfl, rfl⟩
              go_wp2_with fail
              refine (unhide HG).mono ?_
              rintro e W' ⟨rfl, rfl⟩
              go_wp2
              go_roundw
              case rel =>
                refine ⟨k + 1, by omega, by go_num, by trivial, fun i hi => ?_⟩
                rcases Nat.lt_or_ge i k with h | h
                · exact unhide hall i h
                · obtain rfl : i = k := by omega
                  exact unhide hw
              case measure => simp [intOf]; omega
            | false =>
              rw [hg] at HG
              have HG := hide HG
              have hw := hide (show wordB (byteAt s k) = false by rw [wordB, hl, hg]; rfl)
              clear hl hg
              go_wp2_with fail
              refine (unhide HL).mono ?_
              rintro e W' ⟨rfl, rfl⟩
              go_wp2_with fail
              refine (unhide HG).mono ?_
              rintro e W' ⟨rfl, rfl⟩
              go_wp2
              go_ret
              exact ⟨ret_bool (allB_false k hlt (unhide hw)).symm, hb⟩
        · obtain rfl : k = s.size := by omega
          have hall := hide hall
          go_wp2
          go_ret
          exact ⟨ret_bool (allB_true (unhide hall)).symm, hb⟩
set_option maxHeartbeats 2000000 in
set_option maxRecDepth 100000 in
theorem rFileName_any (s : ByteArray) (w : World) (hs : s.size ≤ maxLen) :
    Calls Try.prog 16 #[.string s] w fun e w' => e = .returned (.bool (fileN s)) ∧ w' = w := by
  unfold maxLen at hs
  by_cases h0 : s.size = 0
  · rw [empty_of h0, show fileN ⟨#[]⟩ = false by kernel_rfl]
    clear h0 hs
    go_enter Try.func16, Try.ntmps16
    go_wp2
    go_ret
    exact ⟨rfl, rfl⟩
  by_cases h1 : 16 < s.size
  · rw [fileN, decide_eq_false (show ¬ s.size ≤ 16 by omega), Bool.and_false, Bool.false_and, Bool.false_and]
    go_enter Try.func16, Try.ntmps16
    go_wp2
    go_ret
    exact ⟨rfl, rfl⟩
  have hi0 : ∀ h, (s[0]'h).toNat = byteAt s 0 := fun h => byteAt_idx s 0 h
  have hb0 := byteAt_lt s 0
  by_cases hd : byteAt s 0 = 46
  · rw [fileN, decide_eq_true hd]
    rw [hd] at hi0
    clear hd hb0
    go_enter Try.func16, Try.ntmps16
    go_wp2
    go_ret
    exact ⟨ret_bool (by simp), rfl⟩
  rw [fileN, decide_eq_false hd, decide_eq_true (show 1 ≤ s.size by omega), decide_eq_true (show s.size ≤ 16 by omega)]
  simp only [Bool.true_and, Bool.not_false]
  have hd' : (((byteAt s 0 : Nat) : Int) == 46) = false := beq_eq_false_iff_ne.2 (by omega)
  clear hd
  go_enter Try.func16, Try.ntmps16
  go_wp2
  go_loopw [3] (fun ks wr => ∃ k : Nat, k ≤ s.size ∧ ks = .int .i64 k ∧ wr = w ∧ ∀ i, i < k → fileB (byteAt s i) = true) (fun ks _ => s.size - (intOf ks).toNat)
  case atStart => exact ⟨0, by omega, rfl, rfl, fun i hi => by omega⟩
  case round =>
    obtain ⟨k, hk, rfl, rfl, hall⟩ := hrel
    clear hi0 hd'
    by_cases hlt : k < s.size
    · have hik : ∀ h, (s[k]'h).toNat = byteAt s k := fun h => byteAt_idx s k h
      have hcl := byteAt_lt s k
      have HG := rDigit_any (byteAt s k) wr hcl
      have hfi := file_iff (byteAt s k)
      have hdi := dig_iff (byteAt s k)
      have HA := hide hall
      have hfalse := fun h => allB_false (p := fileB) k hlt h
      clear hall
      by_cases h4 : 97 ≤ byteAt s k ∧ byteAt s k ≤ 122
      · have hw := hide (hfi.2 (.inl h4))
        clear HG hfi hdi
        generalize hce : byteAt s k = c at *
        have hce := hide hce
        go_wp2
        go_roundw
        case rel =>
          refine ⟨k + 1, by omega, by go_num, by trivial, fun i hi => ?_⟩
          rcases Nat.lt_or_ge i k with h | h
          · exact unhide HA i h
          · obtain rfl : i = k := by omega
            rw [unhide hce]
            exact unhide hw
        case measure => simp [intOf]; omega
      have HI := hide hfi
      clear hfi
      cases hg : digB (byteAt s k) with
      | true =>
        have h5 := hdi.1 hg
        have hw := hide ((unhide HI).2 (.inr (.inl h5)))
        rw [hg] at HG
        have HG := hide HG
        clear hg HI hdi
        generalize hce : byteAt s k = c at *
        have hce := hide hce
        have h6 : ¬ 97 ≤ c := by omega
        go_wp2_with fail
        refine (unhide HG).mono ?_
        rintro e W' ⟨rfl, rfl⟩
        go_wp2
        go_roundw
        case rel =>
          refine ⟨k + 1, by omega, by go_num, by trivial, fun i hi => ?_⟩
          rcases Nat.lt_or_ge i k with h | h
          · exact unhide HA i h
          · obtain rfl : i = k := by omega
            rw [unhide hce]
            exact unhide hw
        case measure => simp [intOf]; omega
      | false =>
        have h5 := not_true hdi hg
        rw [hg] at HG
        have HG := hide HG
        clear hdi hg
        by_cases h7 : byteAt s k = 46 ∨ byteAt s k = 45 ∨ byteAt s k = 95
        · have hw := hide ((unhide HI).2 (by omega))
          have h6 : ¬ 97 ≤ byteAt s k := by omega
          clear HI hfalse hcl h4 h5 h6
          generalize hce : byteAt s k = c at *
          have hce := hide hce
          rcases h7 with rfl | rfl | rfl
          all_goals
            go_wp2_with fail
            refine (unhide HG).mono ?_
            rintro e W' ⟨rfl, rfl⟩
            go_wp2
            go_roundw
            case rel =>
              refine ⟨k + 1, by omega, by go_num, by trivial, fun i hi => ?_⟩
              rcases Nat.lt_or_ge i k with h | h
              · exact unhide HA i h
              · obtain rfl : i = k := by omega
                rw [unhide hce]
                exact unhide hw
            case measure => simp [intOf]; omega
        · have hw := hide (is_false (unhide HI) (by omega))
          generalize byteAt s k = c at *
          have h8 : ¬ (c : Int) = 46 := by omega
          have h9 : ¬ (c : Int) = 45 := by omega
          have h10 : ¬ (c : Int) = 95 := by omega
          by_cases h6 : 97 ≤ c
          all_goals
            go_wp2_with fail
            refine (unhide HG).mono ?_
            rintro e W' ⟨rfl, rfl⟩
            go_wp2
            all_goals first
              | (go_ret; exact ⟨ret_bool (hfalse (unhide hw)).symm, rfl⟩)
              | (exfalso; rename_i hx; simp only [Bool.not_eq_false', decide_eq_true_eq, bne_eq_false_iff_eq, Bool.false_eq_true, false_or] at hx; omega)
    · obtain rfl : k = s.size := by omega
      have hall := hide hall
      go_wp2
      go_ret
      exact ⟨ret_bool (allB_true (unhide hall)).symm, rfl⟩
end Go.Proofs.Ytbnfnajfllkjeaa

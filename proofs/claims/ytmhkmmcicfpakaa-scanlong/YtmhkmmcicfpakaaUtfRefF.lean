/-
  The walks of the reference's Decode and Fault.
-/
import Derived.Test.YtmhkmmcicfpakaaUtfRef3
import Derived.Test.YtmhkmmcicfpakaaUtfRef4
namespace Go.Proofs.Ytmhkmmcicfpakaa
open Go.RowKit
theorem rDecode_any (s : ByteArray) (w : World) (h0 : 0 < s.size) (hs : s.size ≤ maxLen) :
    Calls Try.prog 29 #[.string s] w fun e w' => e = .returned (.tuple #[.int .i64 (wid s 0), .bool (!err s 0)]) ∧ w' = w := by
  have h4 : Four s (byteAt s 0) (byteAt s 1) (byteAt s 2) (byteAt s 3) := ⟨byteAt_idx s 0, byteAt_idx s 1, byteAt_idx s 2, byteAt_idx s 3, byteAt_lt _ _, byteAt_lt _ _, byteAt_lt _ _, byteAt_lt _ _⟩
  have e := refN_eq s.size (byteAt s 0) (byteAt s 1) (byteAt s 2) (byteAt s 3) (by omega) (byteAt_lt _ _) (byteAt_lt _ _) (byteAt_lt _ _) (byteAt_lt _ _)
  have hw : refN s.size (byteAt s 0) (byteAt s 1) (byteAt s 2) (byteAt s 3) = (wid s 0, !err s 0) := by
    rw [e, wid, dec_at, err, Nat.sub_zero]
  have key : Calls Try.prog 29 #[.string s] w fun e w' => e = .returned (.tuple #[.int .i64 (refN s.size (byteAt s 0) (byteAt s 1) (byteAt s 2) (byteAt s 3)).1, .bool (refN s.size (byteAt s 0) (byteAt s 1) (byteAt s 2) (byteAt s 3)).2]) ∧ w' = w := by
    by_cases k1 : byteAt s 0 < 128
    · exact rDecode_one s w h0 _ _ _ _ h4 k1
    by_cases k2 : 192 ≤ byteAt s 0 ∧ byteAt s 0 < 224
    · exact rDecode_two s w h0 hs _ _ _ _ h4 k2
    by_cases k3 : 224 ≤ byteAt s 0 ∧ byteAt s 0 < 240
    · exact rDecode_three s w h0 hs _ _ _ _ h4 k3
    by_cases k4 : 240 ≤ byteAt s 0 ∧ byteAt s 0 < 248
    · exact rDecode_four s w h0 hs _ _ _ _ h4 k4
    · exact rDecode_none s w h0 _ _ _ _ h4 (by omega) (by omega)
  rw [hw] at key
  exact key
theorem rDecode_at (s : ByteArray) (pos : Nat) (w : World) (h0 : pos < s.size) (hs : s.size ≤ maxLen) :
    Calls Try.prog 29 #[.string (s.extract pos s.size)] w fun e w' => e = .returned (.tuple #[.int .i64 (wid s pos), .bool (!err s pos)]) ∧ w' = w := by
  have h := rDecode_any (s.extract pos s.size) w (by rw [ByteArray.size_extract]; omega) (by rw [ByteArray.size_extract]; omega)
  rw [wid, dec_extract s pos (by omega), err_extract s pos (by omega)] at h
  exact h
set_option maxHeartbeats 2000000 in
set_option maxRecDepth 100000 in
theorem rFault_any (s : ByteArray) (w : World) (hs : s.size ≤ maxLen) :
    Calls Try.prog 22 #[.string s] w fun e w' => e = .returned (.int .i64 (flt s)) ∧ w' = w := by
  have HD := hide (fun pos h => rDecode_at s pos w h hs)
  unfold maxLen at hs
  go_enter Try.func22, Try.ntmps22
  go_wp2
  go_loopg [3] s.size (fun gf s3 wx => ∃ pos : Nat, wx = w ∧ s3 = .int .i64 pos ∧ pos ≤ s.size ∧ fltF s gf pos = flt s ∧ s.size ≤ pos + gf)
  case atStart => exact ⟨0, rfl, rfl, by omega, rfl, by omega⟩
  case round =>
    obtain ⟨pos, rfl, rfl, hpl, hleft, hfu⟩ := hrel
    by_cases hps : pos < s.size
    · obtain ⟨g', rfl⟩ : ∃ g', gk = g' + 1 := ⟨gk - 1, by omega⟩
      have hD := unhide HD pos hps
      have hwd := wid_ge s pos
      have hwl := wid_le s pos hps
      simp only [fltF, hps, if_true] at hleft
      generalize wid s pos = K at *
      have hbad : bad s pos = (ctl (byteAt s pos) || err s pos) := rfl
      have hix := byteAt_idx s pos
      have hbl := byteAt_lt s pos
      generalize byteAt s pos = b at *
      cases he : err s pos with
      | true =>
        rw [he] at hD hbad
        have hD := hide hD
        have HL := hide (show (pos : Int) = flt s by rw [← hleft, hbad, Bool.or_true, if_pos rfl])
        clear hleft hbad he HD
        go_wp2_with fail
        refine (unhide hD).mono ?_
        rintro e W' ⟨rfl, rfl⟩
        go_wp2
        go_ret
        exact ⟨ret_int (unhide HL), rfl⟩
      | false =>
        rw [he, Bool.or_false] at hbad
        rw [he] at hD
        have hD := hide hD
        clear he HD
        cases hc : ctl b with
        | true =>
          have HL := hide (show (pos : Int) = flt s by rw [← hleft, hbad, hc, if_pos rfl])
          simp only [ctl, Bool.or_eq_true, Bool.and_eq_true, decide_eq_true_eq] at hc
          clear hleft hbad
          rcases hc with ⟨k1, k2, k3⟩ | k1
          · go_wp2_with fail
            refine (unhide hD).mono ?_
            rintro e W' ⟨rfl, rfl⟩
            go_wp2
            go_ret
            exact ⟨ret_int (unhide HL), rfl⟩
          · go_wp2_with fail
            refine (unhide hD).mono ?_
            rintro e W' ⟨rfl, rfl⟩
            go_wp2
            go_ret
            exact ⟨ret_int (unhide HL), rfl⟩
        | false =>
          have HL := hide (show fltF s g' (pos + K) = flt s by rw [← hleft, hbad, hc, if_neg (by decide)])
          have k1 : b = 9 ∨ b = 10 ∨ (32 ≤ b ∧ b ≠ 127) := by
            simp only [ctl, Bool.or_eq_false_iff, Bool.and_eq_false_iff, decide_eq_false_iff_not] at hc
            omega
          clear hleft hbad hc
          rcases k1 with k1 | k1 | ⟨k1, k2⟩
          all_goals
            go_wp2_with fail
            refine (unhide hD).mono ?_
            rintro e W' ⟨rfl, rfl⟩
            go_wp2
            go_roundg g'
            case measure => omega
            case rel => exact ⟨pos + K, rfl, by go_num, by omega, unhide HL, by omega⟩
    · rw [fltF_end s gk pos hps] at hleft
      have HL := hide hleft
      clear hleft HD
      go_wp2
      go_ret
      exact ⟨ret_int (unhide HL), rfl⟩
end Go.Proofs.Ytmhkmmcicfpakaa

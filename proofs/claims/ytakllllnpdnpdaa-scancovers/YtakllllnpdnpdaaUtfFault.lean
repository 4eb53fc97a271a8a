/-
  The walks of package utf: control, written, Fault.
-/
import Derived.Test.YtakllllnpdnpdaaMem
import Derived.Test.YtakllllnpdnpdaaRet
import Derived.Test.YtakllllnpdnpdaaUtfMath
import Derived.Lib.OthersKept
import Derived.LoopTactic
import Derived.Deep.LoopGhost
import Derived.Lib.Strings
namespace Go.Proofs.Ytakllllnpdnpdaa
open Go.RowKit
set_option maxHeartbeats 400000 in
set_option maxRecDepth 100000 in
theorem control_any (r : Nat) (w : World) (hr : r ≤ 1114111) :
    Calls Try.prog 14 #[.int .i32 r] w fun e w' => e = .returned (.bool (ctl r)) ∧ w' = w := by
  go_enter Try.func14, Try.ntmps14
  go_wp2
  all_goals
    go_ret
    refine ⟨ret_bool ?_, rfl⟩
    rw [Bool.eq_iff_iff]
    simp only [ctl, Bool.or_eq_true, Bool.and_eq_true, decide_eq_true_eq, beq_iff_eq, Bool.false_eq_true, ne_eq, true_iff, false_iff]
    omega
/-- A text begins with the replacement rune, written out. -/
def repS (s : ByteArray) : Bool := repN s.size (byteAt s 0) (byteAt s 1) (byteAt s 2)
theorem rep_of (s : ByteArray) (h : 3 ≤ s.size) : ((s.extract 0 3).toList == [239, 191, 189]) = repS s := by
  rw [Lib.extract_toList]
  obtain ⟨⟨l⟩⟩ := s
  match l, h with
  | a :: b :: c :: r, h =>
    have h' : 3 ≤ (⟨⟨a :: b :: c :: r⟩⟩ : ByteArray).size := h
    show ([a, b, c] == [239, 191, 189]) = repN _ a.toNat b.toNat c.toNat
    rw [repN, Bool.eq_iff_iff]
    simp only [h', true_and, beq_iff_eq, List.cons.injEq, and_true, decide_eq_true_eq, ← UInt8.toNat_inj]
    exact Iff.rfl
set_option maxHeartbeats 400000 in
set_option maxRecDepth 100000 in
theorem lHasPrefix_any (s : ByteArray) (w : World) (hs : s.size ≤ maxLen) :
    Calls Try.prog 22 #[.string s, .string ⟨#[239, 191, 189]⟩] w fun e w' => e = .returned (.bool (repS s)) ∧ w' = w := by
  unfold maxLen at hs
  by_cases h3 : s.size < 3
  · go_enter Try.func22, Try.ntmps22
    go_wp2
    go_ret
    refine ⟨ret_bool ?_, rfl⟩
    rw [repS, repN, decide_eq_false (by omega)]
  · go_enter Try.func22, Try.ntmps22
    go_wp2
    go_ret
    exact ⟨ret_bool (rep_of s (by omega)), rfl⟩
set_option maxHeartbeats 400000 in
set_option maxRecDepth 100000 in
theorem written_any (s : ByteArray) (w : World) (hs : s.size ≤ maxLen) :
    Calls Try.prog 15 #[.string s] w fun e w' => e = .returned (.bool (repS s)) ∧ w' = w := by
  have h1 : ∀ w, Calls Try.prog 18 #[.string s, .string ⟨#[239, 191, 189]⟩] w fun e w' => e = .returned (.bool (repS s)) ∧ w' = w := fun w => by
    go_enter Try.func18, Try.ntmps18
    go_wp2_with fail
    refine (lHasPrefix_any s w hs).mono ?_
    rintro e W ⟨rfl, rfl⟩
    go_wp2
    go_ret
    exact ⟨rfl, rfl⟩
  go_enter Try.func15, Try.ntmps15
  go_wp2_with fail
  refine (h1 w).mono ?_
  rintro e W ⟨rfl, rfl⟩
  go_wp2
  go_ret
  exact ⟨rfl, rfl⟩
theorem bad_ctl (s : ByteArray) (pos : Nat) (h : ctl (Utf8.decode s pos).1 = true) : bad s pos = true := by
  rw [dec_at, ctl_rune _ _ _ _ _ (byteAt_lt _ _) (byteAt_lt _ _)] at h
  rw [bad, h, Bool.true_or]
theorem bad_other (s : ByteArray) (pos : Nat) (h : ctl (Utf8.decode s pos).1 = false) (h' : (Utf8.decode s pos).1 ≠ 65533) : bad s pos = false := by
  rw [dec_at] at h h'
  rw [ctl_rune _ _ _ _ _ (byteAt_lt _ _) (byteAt_lt _ _)] at h
  rw [bad, h, err, err_rune _ _ _ _ _ (byteAt_lt _ _) (byteAt_lt _ _) h']
  rfl
theorem bad_rep (s : ByteArray) (pos : Nat) (h : ctl (Utf8.decode s pos).1 = false) (h' : (Utf8.decode s pos).1 = 65533) : bad s pos = !repS (s.extract pos s.size) := by
  rw [dec_at] at h h'
  rw [ctl_rune _ _ _ _ _ (byteAt_lt _ _) (byteAt_lt _ _)] at h
  rw [bad, h, err, err_rep _ _ _ _ _ (byteAt_lt _ _) (byteAt_lt _ _) h' (byteAt_lt _ _), repS]
  simp only [byteAt_extract, ByteArray.size_extract, Nat.min_self, Nat.add_zero, Bool.false_or]
theorem rune_le (s : ByteArray) (pos : Nat) : (Utf8.decode s pos).1 ≤ 1114111 := by
  rw [dec_at]
  exact dN_rune _ _ _ _ _ (byteAt_lt _ _)
set_option maxHeartbeats 1000000 in
set_option maxRecDepth 100000 in
theorem uFault_any (s : ByteArray) (w : World) (hs : s.size ≤ maxLen) :
    Calls Try.prog 10 #[.string s] w fun e w' => e = .returned (.int .i64 (flt s)) ∧ Below w.heap.size w w' := by
  unfold maxLen at hs
  go_enter Try.func10, Try.ntmps10
  go_wp2
  go_loopg [3, 4] s.size (fun gf s3 s4 wx => ∃ pos : Nat, wx.heap[w.heap.size]? = some (.stringIter s pos) ∧ Below w.heap.size w wx ∧ fltF s gf pos = flt s ∧ s.size ≤ pos + gf)
  case atStart => exact ⟨0, World.iter_heap w s 0, (Below.refl _ w).alloc (Nat.le_refl _) _, rfl, by omega⟩
  case round =>
    obtain ⟨pos, hit, hbw, hleft, hfu⟩ := hrel
    by_cases hps : pos < s.size
    · obtain ⟨g', rfl⟩ : ∃ g', gk = g' + 1 := ⟨gk - 1, by omega⟩
      have hnx : ∀ ty, (Instr.next (.pointer (some ⟨w.heap.size, 0, none⟩)) true ty).run Try.prog wr = _ := fun ty => Lib.run_next_any_at wr w.heap.size s pos ty hit hps
      have hwd : 1 ≤ (Utf8.decode s pos).2 := wid_ge s pos
      have hrl := rune_le s pos
      have hb1 := bad_ctl s pos
      have hb2 := bad_other s pos
      have hb3 := bad_rep s pos
      simp only [fltF, hps, if_true] at hleft
      rw [show wid s pos = (Utf8.decode s pos).2 from rfl] at hleft
      obtain ⟨R, hR⟩ : ∃ R, (Utf8.decode s pos).1 = R := ⟨_, rfl⟩
      obtain ⟨K, hK⟩ : ∃ K, (Utf8.decode s pos).2 = K := ⟨_, rfl⟩
      rw [hR, hK] at hnx
      rw [hR] at hb1 hb2 hb3 hrl
      rw [hK] at hwd hleft
      clear hR hK
      have hit2 := Lib.iterAt_heap wr w.heap.size s pos (pos + K) hit
      have hbw2 := Lib.below_iterAt hbw (k := w.heap.size) (Nat.le_refl _) s (pos + K)
      obtain ⟨W, hWd⟩ : ∃ W, wr.iterAt w.heap.size s (pos + K) = W := ⟨_, rfl⟩
      rw [hWd] at hnx hit2 hbw2
      have HC := control_any R W hrl
      have HW := hide (written_any (s.extract pos s.size) W (by rw [ByteArray.size_extract]; unfold maxLen; omega))
      clear hWd hit hbw
      cases hc : ctl R with
      | true =>
        rw [hb1 hc, if_pos rfl] at hleft
        rw [hc] at HC
        have HC := hide HC
        have HL := hide hleft
        clear hleft hb1 hb2 hb3 hc HW
        go_wp2_with fail
        refine (unhide HC).mono ?_
        rintro e W' ⟨rfl, rfl⟩
        go_wp2
        go_ret
        exact ⟨ret_int (unhide HL), hbw2⟩
      | false =>
        rw [hc] at HC
        have HC := hide HC
        by_cases hRe : R = 65533
        · have hbd := hb3 hc hRe
          cases hrp : repS (s.extract pos s.size) with
          | true =>
            rw [hrp] at hbd
            change bad s pos = false at hbd
            rw [hbd, if_neg (by decide)] at hleft
            have HW := unhide HW
            rw [hrp] at HW
            have HW := hide HW
            have HL := hide hleft
            clear hleft hb1 hb2 hb3 hc hbd hrp
            have HR := hide (show (R : Int) = 65533 by omega)
            clear hRe
            go_wp2_with fail
            refine (unhide HC).mono ?_
            rintro e W' ⟨rfl, rfl⟩
            have hRi := unhide HR
            go_wp2_with fail
            refine (unhide HW).mono ?_
            rintro e W' ⟨rfl, rfl⟩
            go_wp2
            go_roundg g'
            case measure => omega
            case rel => exact ⟨pos + K, hit2, hbw2, unhide HL, by omega⟩
          | false =>
            rw [hrp] at hbd
            change bad s pos = true at hbd
            rw [hbd, if_pos rfl] at hleft
            have HW := unhide HW
            rw [hrp] at HW
            have HW := hide HW
            have HL := hide hleft
            clear hleft hb1 hb2 hb3 hc hbd hrp
            have HR := hide (show (R : Int) = 65533 by omega)
            clear hRe
            go_wp2_with fail
            refine (unhide HC).mono ?_
            rintro e W' ⟨rfl, rfl⟩
            have hRi := unhide HR
            go_wp2_with fail
            refine (unhide HW).mono ?_
            rintro e W' ⟨rfl, rfl⟩
            go_wp2
            go_ret
            exact ⟨ret_int (unhide HL), hbw2⟩
        · rw [hb2 hc hRe, if_neg (by decide)] at hleft
          have HL := hide hleft
          clear hleft hb1 hb2 hb3 hc HW
          have hRi : ¬ (R : Int) = 65533 := by omega
          go_wp2_with fail
          refine (unhide HC).mono ?_
          rintro e W' ⟨rfl, rfl⟩
          go_wp2
          go_roundg g'
          case measure => omega
          case rel => exact ⟨pos + K, hit2, hbw2, unhide HL, by omega⟩
    · have hnx : ∀ ty, (Instr.next (.pointer (some ⟨w.heap.size, 0, none⟩)) true ty).run Try.prog wr = _ := fun ty => Lib.run_next_end_at wr w.heap.size s pos ty hit hps
      rw [fltF_end s gk pos hps] at hleft
      go_wp2
      go_ret
      exact ⟨by rw [← hleft] <;> rfl, hbw⟩
end Go.Proofs.Ytakllllnpdnpdaa

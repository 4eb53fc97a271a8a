/-
  UtfLong's walk.
-/
import Derived.Test.YtifmdlmbnejiiaaUtfBegun
import Derived.Test.YtifmdlmbnejiiaaConv
import Derived.Test.YtifmdlmbnejiiaaOwn
import Derived.BigRegion
namespace Go.Proofs.Ytifmdlmbnejiiaa
open Go.RowKit
theorem letters (n : Nat) : flt (strOfNums (List.replicate n 97)) = -1 := by
  refine fltF_letters _ (fun i hi => ?_) _ _
  rw [strOfNums_size, List.length_replicate] at hi
  rw [byteAt_eq, ← Array.getElem?_toList, strOfNums_data]
  simp [hi]
set_option maxHeartbeats 2000000 in
set_option maxRecDepth 100000 in
theorem utfLong_walk (a0 : Int) (a1 : ByteArray) (w0 : -9223372036854775808 ≤ a0 ∧ a0 ≤ 9223372036854775807) (w1 : a1.size ≤ maxLen) (w : World) :
    Calls Try.prog 5 #[.int .i64 a0, .string a1] w fun e w' => e = .returned (.bool true) ∧ Below w.heap.size w w' := by
  obtain ⟨hn1, hn2⟩ := w0
  have hl := cutS_le a1 10
  have HC := hide (fun w => cut_any a1 10 w w1 (by omega))
  generalize cutS a1 10 = t at *
  go_enter Try.func5, Try.ntmps5
  go_wp2_with fail
  refine (begun_any _).mono ?_
  rintro e W0 ⟨rfl, hb0⟩
  go_wp2_with fail
  refine (unhide HC _).mono ?_
  rintro e W1 ⟨rfl, rfl⟩
  by_cases h1 : a0 < 0
  · go_wp2
    go_ret
    exact ⟨rfl, hb0⟩
  by_cases h2 : 2100 < a0
  · go_wp2
    go_ret
    exact ⟨rfl, hb0⟩
  obtain ⟨n, rfl⟩ := Int.eq_ofNat_of_zero_le (show 0 ≤ a0 by omega)
  obtain ⟨i0, hi, hz0, hz1, hz2⟩ := info_parts Try.info5
  have hX := hide (letters n)
  have HXs := strOfNums_size (List.replicate n 97)
  rw [List.length_replicate] at HXs
  have HG := hide (fun k (hk : k < n) => set_next (List.replicate n 97) n k hk (by simp))
  have hbX := hide (show Byt (List.replicate n 97) from fun x hx => by rw [List.eq_of_mem_replicate hx]; omega)
  go_wp2_with (at_make; refine wpList_make_full _ rfl _ _ 26 rfl W1.heap.size 5 i0 (.int .u8 0) 1 Try.underlying26 hi hz0 hz1 .i64 .i64 _ _ n rfl rfl rfl rfl (by rw [hz2]; omega) (by unfold maxLen; omega) (Nat.le_refl _) ?_)
  intro W2 hown hgrow
  have hb2 : Below W1.heap.size W1 W2 := (Below.refl _ _).grown hgrow (Nat.le_refl _) (fun k hk => by simp at hk)
  rw [made_zeros] at hown
  have hO := OwnB.made hown
  clear hown hgrow
  generalize hg : W1.heap.size = g at *
  go_wp2
  go_loopw [24] (fun ks wr => ∃ k : Nat, k ≤ n ∧ ks = .int .i64 k ∧ OwnB wr g ((List.replicate n 97).take k ++ List.replicate (n - k) 0) ∧ Below g W1 wr) (fun ks _ => n - (intOf ks).toNat)
  case atStart => exact ⟨0, by omega, rfl, by simpa using hO, hb2⟩
  case round =>
    obtain ⟨k, hk, rfl, hOk, hbk⟩ := hrel
    clear hO hb2
    by_cases hlt : k < n
    · have hOc := hOk.cell k (by simp; omega)
      have hOf := hOk.frozen k
      have HS := hOk.set k ((List.replicate n 97).getD k 0)
      rw [unhide HG k hlt] at HS
      rw [show (List.replicate n (97 : Int)).getD k 0 = 97 by simp [List.getD, hlt]] at HS
      have HS := hide HS
      clear hOk
      go_wp2
      go_roundw
      case rel => exact ⟨k + 1, by omega, by go_num, unhide HS, hbk.setCell (by exact Nat.le_refl g) _⟩
      case measure => simp [intOf]; omega
    · obtain rfl : k = n := by omega
      rw [Nat.sub_self, List.replicate_zero, List.append_nil, List.take_of_length_le (by simp)] at hOk
      have hD := hOk.bts (unhide hbX) (by simp; omega)
      rw [List.length_replicate] at hD
      have hcv := hD.conv
      clear hD hOk
      generalize strOfNums (List.replicate k 97) = u at *
      have hsz : (u ++ t).size = u.size + t.size := ByteArray.size_append
      have hj := (join u t (unhide hX)).1
      have HT := fun w => uText_any (u ++ t) w (by unfold maxLen; omega)
      rw [hj, HXs, hsz, HXs] at HT
      have hft : decide (moved k (flt t) < 0) = decide (flt t < 0) := by
        unfold moved
        split
        · rw [decide_eq_false (by omega), decide_eq_false (by omega)]
        · rfl
      rw [hft] at HT
      have HR := hide (fun w => rFault_any t w (by unfold maxLen; omega))
      have hfr := flt_range t
      generalize flt t = f at *
      clear hj hft HC
      by_cases h20 : k + t.size ≤ 2000
      · rw [decide_eq_true h20, Bool.true_and] at HT
        have HX := hide HT
        clear HT
        go_wp2_with fail
        refine (unhide HX _).mono ?_
        rintro e W3 ⟨rfl, hb3⟩
        go_wp2_with fail
        refine (unhide HR _).mono ?_
        rintro e W3' ⟨rfl, rfl⟩
        go_wp2
        go_ret
        exact ⟨rfl, below3 (below3 hb0 (hg ▸ hbk)) hb3⟩
      · rw [decide_eq_false h20, Bool.false_and] at HT
        have HX := hide HT
        clear HT
        go_wp2_with fail
        refine (unhide HX _).mono ?_
        rintro e W3 ⟨rfl, hb3⟩
        go_wp2
        go_ret
        exact ⟨rfl, below3 (below3 hb0 (hg ▸ hbk)) hb3⟩
theorem utfLong_shell (a0 : Int) (a1 : ByteArray) (w0 : (Lit.int .i64 a0).wf = true) (w1 : a1.size ≤ maxLen) (w : World) :
    Calls Try.prog 5 #[.int .i64 a0, .string a1] w fun e w' => e = .returned (.bool true) ∧ Below w.heap.size w w' :=
  utfLong_walk a0 a1 (bounds_i64 w0) w1 w
end Go.Proofs.Ytifmdlmbnejiiaa

/-
  ScanLong.
-/
import Derived.Test.YtmhkmmcicfpakaaScanSame
import Derived.Test.YtmhkmmcicfpakaaScanBegun
import Derived.Test.YtmhkmmcicfpakaaConv
import Derived.Test.YtmhkmmcicfpakaaOwn
import Derived.BigRegion
namespace Go.Proofs.Ytmhkmmcicfpakaa
open Go.RowKit
set_option maxHeartbeats 2000000 in
set_option maxRecDepth 100000 in
theorem scanLong_walk (a0 : Int) (a1 : ByteArray) (w0 : -9223372036854775808 ≤ a0 ∧ a0 ≤ 9223372036854775807) (w1 : a1.size ≤ maxLen) (w : World) :
    Calls Try.prog 7 #[.int .i64 a0, .string a1] w fun e w' => e = .returned (.bool true) ∧ Below w.heap.size w w' := by
  obtain ⟨hn1, hn2⟩ := w0
  have hl := cutS_le a1 20
  have HC := hide (fun w => cut_any a1 20 w w1 (by omega))
  have HB := hide (scanbegun_any w)
  generalize cutS a1 20 = t at *
  go_enter Try.func7, Try.ntmps7
  go_wp2_with fail
  refine (unhide HB).mono ?_
  rintro e W0 ⟨rfl, hb0⟩
  go_wp2_with fail
  refine (unhide HC _).mono ?_
  rintro e W1 ⟨rfl, rfl⟩
  clear HB
  by_cases h1 : a0 < 0
  · go_wp2
    go_ret
    exact ⟨rfl, hb0⟩
  by_cases h2 : 2100 < a0
  · go_wp2
    go_ret
    exact ⟨rfl, hb0⟩
  obtain ⟨n, rfl⟩ := Int.eq_ofNat_of_zero_le (show 0 ≤ a0 by omega)
  obtain ⟨i0, hi, hz0, hz1, hz2⟩ := info_parts Try.info5
  have HXs := strOfNums_size (List.replicate n 32)
  rw [List.length_replicate] at HXs
  have HG := hide (fun k (hk : k < n) => set_next (List.replicate n 32) n k hk (by simp))
  have hbX := hide (show Byt (List.replicate n 32) from fun x hx => by rw [List.eq_of_mem_replicate hx]; omega)
  go_wp2_with (at_make; refine wpList_make_full _ rfl _ _ 26 rfl W1.heap.size 5 i0 (.int .u8 0) 1 Try.underlying26 hi hz0 hz1 .i64 .i64 _ _ n rfl rfl rfl rfl (by rw [hz2]; omega) (by unfold maxLen; omega) (Nat.le_refl _) ?_)
  intro W2 hown hgrow
  have hb2 : Below W1.heap.size W1 W2 := (Below.refl _ _).grown hgrow (Nat.le_refl _) (fun k hk => by simp at hk)
  rw [made_zeros] at hown
  have hO := OwnB.made hown
  clear hown hgrow
  generalize hg : W1.heap.size = g at *
  go_wp2
  go_loopw [23] (fun ks wr => ∃ k : Nat, k ≤ n ∧ ks = .int .i64 k ∧ OwnB wr g ((List.replicate n 32).take k ++ List.replicate (n - k) 0) ∧ Below g W1 wr) (fun ks _ => n - (intOf ks).toNat)
  case atStart => exact ⟨0, by omega, rfl, by simpa using hO, hb2⟩
  case round =>
    obtain ⟨k, hk, rfl, hOk, hbk⟩ := hrel
    clear hO hb2
    by_cases hlt : k < n
    · have hOc := hOk.cell k (by simp; omega)
      have hOf := hOk.frozen k
      have HS := hOk.set k ((List.replicate n 32).getD k 0)
      rw [unhide HG k hlt] at HS
      rw [show (List.replicate n (32 : Int)).getD k 0 = 32 by simp [List.getD, hlt]] at HS
      have HS := hide HS
      clear hOk
      go_wp2
      go_roundw
      case rel => exact ⟨k + 1, by omega, by go_num, unhide HS, hbk.setCell (by exact Nat.le_refl g) _⟩
      case measure => simp [intOf]; omega
    · obtain rfl : k = n := by omega
      rw [Nat.sub_self, List.replicate_zero, List.append_nil, List.take_of_length_le (by simp)] at hOk
      have hD := hOk.bts (unhide hbX) (by simp; omega)
      rw [List.length_replicate] at hD
      have hcv := hD.conv
      have hcw := fun (w' : World) (h : Below wr.heap.size wr w') => (hD.below h (Nat.le_refl _)).conv
      clear hD
      generalize strOfNums (List.replicate k 32) = u at *
      have H1 := hide (fun w => same_any (t ++ u) w (by rw [ByteArray.size_append]; omega))
      have H2 := hide (fun w => same_any (u ++ t) w (by rw [ByteArray.size_append]; omega))
      replace hcw := hide hcw
      clear hOk HC
      go_wp2_with fail
      refine (unhide H1 _).mono ?_
      rintro e W3 ⟨rfl, hb3⟩
      have hcv2 := unhide hcw _ hb3
      clear hcv
      go_wp2_with fail
      refine (unhide H2 _).mono ?_
      rintro e W4 ⟨rfl, hb4⟩
      go_wp2
      go_ret
      exact ⟨rfl, below3 (below3 (below3 hb0 (hg ▸ hbk)) hb3) hb4⟩
theorem scanLong_shell (a0 : Int) (a1 : ByteArray) (w0 : (Lit.int .i64 a0).wf = true) (w1 : a1.size ≤ maxLen) (w : World) :
    Calls Try.prog 7 #[.int .i64 a0, .string a1] w fun e w' => e = .returned (.bool true) ∧ Below w.heap.size w w' :=
  scanLong_walk a0 a1 (bounds_i64 w0) w1 w
end Go.Proofs.Ytmhkmmcicfpakaa

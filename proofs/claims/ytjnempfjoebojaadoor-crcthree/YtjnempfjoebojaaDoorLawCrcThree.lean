/-
  CrcThree's walk.
-/
import Derived.Test.YtjnempfjoebojaaDoorCrcRef
import Derived.Test.YtjnempfjoebojaaDoorOwn
import Derived.Deep.DeepCutAuto
import Derived.Deep.QuietTactic
import Derived.BigQuiet
import Derived.BigRegion
namespace Go.Proofs.YtjnempfjoebojaaDoor
open Go.RowKit
set_option maxHeartbeats 1000000 in
set_option maxRecDepth 100000 in
theorem crcThree_shell (a0 : Option Addr) (len0 cap0 : Nat) (z0 : List Int) (a1 : Option Addr) (len1 cap1 : Nat) (z1 : List Int) (a2 : Option Addr) (len2 cap2 : Nat) (z2 : List Int) (w : World)
    (w0 : IsRow .u8 w a0 len0 cap0 z0) (w1 : IsRow .u8 w a1 len1 cap1 z1) (w2 : IsRow .u8 w a2 len2 cap2 z2) (ht0 : Tab w) :
    Calls Tryd.prog 5 #[.slice a0 len0 cap0, .slice a1 len1 cap1, .slice a2 len2 cap2] w fun e w' => e = .returned (.bool true) ∧ Below w.heap.size w w' := by
  have hlm : len0 ≤ 9223372036854775807 ∧ len1 ≤ 9223372036854775807 ∧ len2 ≤ 9223372036854775807 := by
    refine ⟨?_, ?_, ?_⟩
    · rcases w0 with ⟨_, rfl, _⟩ | ⟨_, _, h1, h2, _⟩
      · omega
      · unfold maxLen at h2; omega
    · rcases w1 with ⟨_, rfl, _⟩ | ⟨_, _, h1, h2, _⟩
      · omega
      · unfold maxLen at h2; omega
    · rcases w2 with ⟨_, rfl, _⟩ | ⟨_, _, h1, h2, _⟩
      · omega
      · unfold maxLen at h2; omega
  obtain ⟨hl0, hl1, hl2⟩ := hlm
  go_enter Tryd.func5, Tryd.ntmps5
  go_wp2_with fail
  refine (crcbegun_any _ ht0).mono ?_
  rintro e W1 ⟨rfl, hbel1⟩
  have ht := ht0.of hbel1
  have W0 := hide (w0.below hbel1)
  have W1' := hide (w1.below hbel1)
  have W2' := hide (w2.below hbel1)
  clear ht0 w0 w1 w2
  go_upto_region 4 with fail
  go_cut [8] (fun s8 wx => ∃ n : Nat, s8 = .int .i64 n ∧ n ≤ len0 ∧ n ≤ len1 ∧ n ≤ len2 ∧ n ≤ 100 ∧ W1 = wx)
  case first =>
    by_cases h1 : (len0 : Int) ≤ 100
    all_goals by_cases h2 : (len1 : Int) ≤ len2
    all_goals go_wp2
    all_goals go_meet
    all_goals first
      | exact ⟨len0, rfl, by omega, by omega, by omega, by omega, rfl⟩
      | exact ⟨len1, rfl, by omega, by omega, by omega, by omega, rfl⟩
      | exact ⟨len2, rfl, by omega, by omega, by omega, by omega, rfl⟩
      | exact ⟨100, rfl, by omega, by omega, by omega, by omega, rfl⟩
  case rest =>
    obtain ⟨n, rfl, hn0, hn1, hn2, hn3, rfl⟩ := hcut
    have HA := hide ((unhide W0).bts n hn0 (by omega))
    have HB := hide ((unhide W1').bts n hn1 (by omega))
    have HC := hide ((unhide W2').bts n hn2 (by omega))
    have hlA : (z0.take n).length = n := by
      rcases unhide W0 with ⟨_, rfl, rfl, rfl⟩ | ⟨_, _, h1, h2, h3, _⟩
      · simp; omega
      · simp; omega
    have hlB : (z1.take n).length = n := by
      rcases unhide W1' with ⟨_, rfl, rfl, rfl⟩ | ⟨_, _, h1, h2, h3, _⟩
      · simp; omega
      · simp; omega
    have hlC : (z2.take n).length = n := by
      rcases unhide W2' with ⟨_, rfl, rfl, rfl⟩ | ⟨_, _, h1, h2, h3, _⟩
      · simp; omega
      · simp; omega
    have hcaps : n ≤ cap0 ∧ n ≤ cap1 ∧ n ≤ cap2 := by
      refine ⟨?_, ?_, ?_⟩
      · rcases unhide W0 with ⟨_, rfl, rfl, rfl⟩ | ⟨_, _, h1, _⟩ <;> omega
      · rcases unhide W1' with ⟨_, rfl, rfl, rfl⟩ | ⟨_, _, h1, _⟩ <;> omega
      · rcases unhide W2' with ⟨_, rfl, rfl, rfl⟩ | ⟨_, _, h1, _⟩ <;> omega
    obtain ⟨hc0, hc1, hc2⟩ := hcaps
    clear W0 W1' W2'
    generalize z0.take n = A at *
    generalize z1.take n = B at *
    generalize z2.take n = C at *
    obtain ⟨i0, hi, hz0, hz1, hz2⟩ := info_parts Tryd.info5
    have hlX : (xorL (xorL A B) C).length = n := by rw [xorL_length, xorL_length, hlA]; omega; rw [xorL_length] <;> omega
    have hbX := hide (xorL_byt _ _ (xorL_byt _ _ (unhide HA).1 (unhide HB).1) (unhide HC).1)
    have H3 := hide (three A B C (by omega) (by omega))
    have hgX : ∀ k, k < n → (xorL (xorL A B) C).getD k 0 = ((((A.getD k 0).toNat ^^^ (B.getD k 0).toNat) ^^^ (C.getD k 0).toNat : Nat) : Int) := by
      intro k hk
      rw [xorL_getD _ _ _ (by rw [xorL_length] <;> omega) (by omega), xorL_getD _ _ _ (by omega) (by omega), Int.toNat_natCast]
    have HGX := hide hgX
    clear hgX
    generalize xorL (xorL A B) C = X at *
    go_wp2_with (at_make; refine wpList_make_full _ rfl _ _ 22 rfl W1.heap.size 5 i0 (.int .u8 0) 1 Tryd.underlying22 hi hz0 hz1 .i64 .i64 _ _ n rfl rfl rfl rfl (by rw [hz2]; omega) (by unfold maxLen; omega) (Nat.le_refl _) ?_)
    intro W2 hown hgrow
    have hb2 : Below W1.heap.size W1 W2 := (Below.refl _ _).grown hgrow (Nat.le_refl _) (fun k hk => by simp at hk)
    rw [made_zeros] at hown
    have hO := OwnB.made hown
    clear hown hgrow
    generalize hg : W1.heap.size = g at *
    have HX := hide hlX
    go_wp2
    go_loopw [10] (fun ks wr => ∃ k : Nat, k ≤ n ∧ ks = .int .i64 k ∧ OwnB wr g (X.take k ++ List.replicate (n - k) 0) ∧ Below g W1 wr) (fun ks _ => n - (intOf ks).toNat)
    case atStart => exact ⟨0, by omega, rfl, by simpa using hO, hb2⟩
    case round =>
      obtain ⟨k, hk, rfl, hOk, hbk⟩ := hrel
      clear hO hb2
      by_cases hlt : k < n
      · obtain ⟨ba, oa, rfl, hba, HCa⟩ := (unhide HA).at (by omega) (by rw [hg]; exact hbk)
        obtain ⟨bb, ob, rfl, hbb, HCb⟩ := (unhide HB).at (by omega) (by rw [hg]; exact hbk)
        obtain ⟨bc, oc, rfl, hbc, HCc⟩ := (unhide HC).at (by omega) (by rw [hg]; exact hbk)
        have hca := HCa k (by omega)
        have hcb := HCb k (by omega)
        have hcc := HCc k (by omega)
        clear HCa HCb HCc
        have hra := byt_getD (unhide HA).1 k (by omega)
        have hrb := byt_getD (unhide HB).1 k (by omega)
        have hrc := byt_getD (unhide HC).1 k (by omega)
        have hx := unhide HGX k hlt
        have hOc := hOk.cell k (by simp; omega)
        have hOf := hOk.frozen k
        have HS := hide (hOk.set k (X.getD k 0))
        rw [set_next X n k hlt hlX] at HS
        generalize A.getD k 0 = x at *
        generalize B.getD k 0 = y at *
        generalize C.getD k 0 = z at *
        obtain ⟨xn, rfl⟩ := Int.eq_ofNat_of_zero_le hra.1
        obtain ⟨yn, rfl⟩ := Int.eq_ofNat_of_zero_le hrb.1
        obtain ⟨zn, rfl⟩ := Int.eq_ofNat_of_zero_le hrc.1
        simp only [Int.toNat_natCast] at hx
        have hxy := u8_xor_nat xn yn (by omega) (by omega)
        have hxyl := Nat.xor_lt_two_pow (n := 8) (x := xn) (y := yn) (by omega) (by omega)
        have hxyz := u8_xor_nat (xn ^^^ yn) zn (by omega) (by omega)
        rw [hx] at HS
        clear hx hra hrb hrc hxyl hOk
        generalize xn ^^^ yn = p at *
        generalize p ^^^ zn = q at *
        go_wp2_with fail
        go_region
        go_wp2
        go_roundw
        case rel => exact ⟨k + 1, by omega, by go_num, unhide HS, (hbk.setCell (by exact Nat.le_refl g) _).drew⟩
        case measure => simp [intOf]; omega
      · obtain rfl : k = n := by omega
        rw [Nat.sub_self, List.replicate_zero, List.append_nil, List.take_of_length_le (by omega)] at hOk
        have hD := hOk.bts (unhide hbX) (by omega)
        rw [hlX] at hD
        have htk := ht.below hbk (by rw [← hg]; exact ht.lt)
        have hA := (unhide HA).below hbk (by omega)
        have hB := (unhide HB).below hbk (by omega)
        have hC := (unhide HC).below hbk (by omega)
        have CX := fun m => sum_any _ X (wr.drewN m) (htk.drewN m) (hD.drewN m)
        simp only [unhide H3] at CX
        have CA := fun m => sum_any _ A (wr.drewN m) (htk.drewN m) (hA.drewN m)
        have CB := fun m => sum_any _ B (wr.drewN m) (htk.drewN m) (hB.drewN m)
        have CC := fun m => sum_any _ C (wr.drewN m) (htk.drewN m) (hC.drewN m)
        have h12 := u32_xor_nat (sumM A) (sumM B) (sumM_lt _ hA.1) (sumM_lt _ hB.1)
        have h123 := u32_xor_nat (sumM A ^^^ sumM B) (sumM C) (xor_lt32 (sumM_lt _ hA.1) (sumM_lt _ hB.1)) (sumM_lt _ hC.1)
        have HCX := hide CX
        have HCA := hide CA
        have HCB := hide CB
        have HCC := hide CC
        have hbw : Below w.heap.size w wr := hbel1.trans (hbk.mono (by rw [← hg]; exact hbel1.size))
        clear CX CA CB CC H3 hA hB hC hD htk hOk HGX hbX HX hbk HA HB HC
        generalize sumM A = sA at *
        generalize sumM B = sB at *
        generalize sumM C = sC at *
        generalize sA ^^^ sB = sAB at *
        generalize sAB ^^^ sC = sX at *
        go_wp2_with fail
        go_quiet (first | (go_at_call 9; exact Calls.quiet_of_same (unhide HCX _)) | (go_at_call 9; exact Calls.quiet_of_same (unhide HCA _)) | (go_at_call 9; exact Calls.quiet_of_same (unhide HCB _)) | (go_at_call 9; exact Calls.quiet_of_same (unhide HCC _)))
        go_wp2
        go_ret
        exact ⟨rfl, below_drewN hbw _⟩
end Go.Proofs.YtjnempfjoebojaaDoor

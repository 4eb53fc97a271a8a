/-
  ScanNumbers.
-/
import Derived.Test.YtmhkmmcicfpakabScanConv
import Derived.Test.YtmhkmmcicfpakabScanBegun
namespace Go.Proofs.Ytmhkmmcicfpakab
open Go.RowKit
set_option linter.unusedSimpArgs false
set_option linter.unusedVariables false
theorem numbers_one (n : Nat) (d : UInt8) (h1 : 48 ≤ d.toNat) (h2 : d.toNat ≤ 57) (hn1 : 1 ≤ n) (hn2 : n ≤ 20) :
    (scanS (bs (List.replicate n d))).2.2 = if n ≤ 12 ∧ (n = 1 ∨ d.toNat ≠ 48) then -1 else 0 := by
  obtain ⟨s, hs⟩ : ∃ s, bs (List.replicate n d) = s := ⟨_, rfl⟩
  have hz : s.size = n := by rw [← hs, bs_size, List.length_replicate]
  have hb : ∀ i, i < n → byteAt s i = d.toNat := fun i hi => by
    rw [← hs, byteAt_bs, List.getD, List.getElem?_replicate, if_pos hi]
    rfl
  have hd : ∀ i, i < n → digB (byteAt s i) = true := fun i hi => (dig_iff _).2 (by rw [hb i hi]; omega)
  rw [hs, scanS_plain s (fun i hi => by rw [hb i (by omega)]; omega) (by omega)]
  have ht : toN s false 0 = n := toN_eq n 0 n (by omega) (by omega) (fun i k1 k2 => by rw [clsB, hd i k2]; rfl) (.inl hz.symm)
  have hnb := num_iff s
  rw [ht, hb 0 (by omega)] at hnb
  obtain ⟨m, hm⟩ : ∃ m, s.size = m + 1 := ⟨s.size - 1, by omega⟩
  by_cases hg : n ≤ 12 ∧ (n = 1 ∨ d.toNat ≠ 48)
  · have hb1 : numB s 0 = true := hnb.2 (by omega)
    have e0 : scanL s s.size sc0 = (true, Sc.add s sc0 2 n) := by
      rw [hm, step_num (x := sc0) (by show 0 < _; omega) (hd 0 (by omega)) hb1]
      show scanL s m (Sc.add s sc0 2 (toN s false 0)) = _
      rw [ht, scanL_end (by show s.size ≤ n; omega)]
    rw [scanR_ok e0 (by decide), if_pos hg]
  · have hb1 : numB s 0 = false := by
      cases hb1 : numB s 0 with
      | false => rfl
      | true => exact absurd (hnb.1 hb1) (by omega)
    have e0 : scanL s s.size sc0 = (false, sc0) := by
      rw [hm]
      exact stop_num (x := sc0) (by show 0 < _; omega) (hd 0 (by omega)) hb1
    rw [scanR_stop e0, if_pos (.inl (by decide)), if_neg hg]
    rfl
theorem numbers_two (n : Nat) (d c : UInt8) (h1 : 48 ≤ d.toNat) (h2 : d.toNat ≤ 57) (h3 : 97 ≤ c.toNat) (h4 : c.toNat ≤ 122) (hn1 : 1 ≤ n) (hn2 : n ≤ 20) :
    (scanS (bs ([43] ++ List.replicate n d ++ [c]))).2.2 = 1 := by
  obtain ⟨s, hs⟩ : ∃ s, bs ([43] ++ List.replicate n d ++ [c]) = s := ⟨_, rfl⟩
  have hb : ∀ i, byteAt s i = (if i < 1 then ([43] : List UInt8).getD i 0 else if i < 1 + n then d else ([c] : List UInt8).getD (i - 1 - n) 0).toNat := fun i => by rw [← hs, byteAt_bs, getD3]; rfl
  have hz : s.size = n + 2 := by rw [← hs, bs_size]; simp
  have b0 : byteAt s 0 = 43 := by rw [hb]; rfl
  have bm : ∀ i, 1 ≤ i → i < n + 1 → byteAt s i = d.toNat := fun i k1 k2 => by rw [hb, if_neg (by omega), if_pos (by omega)]
  have be : byteAt s (n + 1) = c.toNat := by rw [hb, if_neg (by omega), if_neg (by omega), show n + 1 - 1 - n = 0 by omega]; rfl
  have hd : ∀ i, 1 ≤ i → i < n + 1 → digB (byteAt s i) = true := fun i k1 k2 => (dig_iff _).2 (by rw [bm i k1 k2]; omega)
  rw [hs, scanS_plain s (fun i hi => ?_) (by omega)]
  · have hle : letB (byteAt s (n + 1)) = true := (let_iff _).2 (by rw [be]; omega)
    have hde : digB (byteAt s (n + 1)) = false := is_false (dig_iff _) (by rw [be]; omega)
    have ht : toN s false 1 = n + 1 := toN_eq n 1 (n + 1) (by omega) (by omega) (fun i k1 k2 => by rw [clsB, hd i k1 k2]; rfl) (.inr (by rw [clsB, hde]; rfl))
    have hnb : numB s 1 = false := by
      rw [numB, ht, hle, decide_eq_true (show n + 1 < s.size by omega)]
      simp
    have hx : s.extract 0 1 = ⟨#[43]⟩ := by
      rw [← hs, extract_bs]
      rfl
    obtain ⟨m, hm⟩ : ∃ m, s.size = m + 1 + 1 := ⟨s.size - 2, by omega⟩
    have e0 : scanL s s.size sc0 = (false, Sc.add s sc0 4 1) := by
      rw [hm, step_plus (x := sc0) (by show 0 < _; omega) b0 hx]
      exact stop_num (x := Sc.add s sc0 4 1) (by show 1 < _; omega) (hd 1 (by omega) (by omega)) hnb
    rw [scanR_stop e0, if_pos (.inl (by decide))]
    rfl
  · by_cases k0 : i = 0
    · rw [k0, b0]; omega
    by_cases k1 : i < n + 1
    · rw [bm i (by omega) k1]; omega
    · rw [show i = n + 1 by omega, be]; omega
set_option maxHeartbeats 2000000 in
set_option maxRecDepth 100000 in
theorem scanNumbers_walk (a0 a1 a2 : Int) (w0 : -9223372036854775808 ≤ a0 ∧ a0 ≤ 9223372036854775807) (w1 : 0 ≤ a1 ∧ a1 ≤ 255) (w2 : 0 ≤ a2 ∧ a2 ≤ 255) (w : World) :
    Calls Try.prog 3 #[.int .i64 a0, .int .u8 a1, .int .u8 a2] w fun e w' => e = .returned (.bool true) ∧ Below w.heap.size w w' := by
  obtain ⟨hn1, hn2⟩ := w0
  have HB := hide (scanbegun_any w)
  go_enter Try.func3, Try.ntmps3
  go_wp2_with fail
  refine (unhide HB).mono ?_
  rintro e W0 ⟨rfl, hb0⟩
  clear HB
  by_cases h1 : a0 < 1
  · go_wp2
    go_ret
    exact ⟨rfl, hb0⟩
  by_cases h2 : 20 < a0
  · go_wp2
    go_ret
    exact ⟨rfl, hb0⟩
  by_cases h3 : 9 < a1
  · go_wp2
    go_ret
    exact ⟨rfl, hb0⟩
  obtain ⟨n, rfl⟩ := Int.eq_ofNat_of_zero_le (show 0 ≤ a0 by omega)
  obtain ⟨x, hx⟩ : ∃ x, UInt8.ofNat (48 + a1).toNat = x := ⟨_, rfl⟩
  have hxn : x.toNat = (48 + a1).toNat := by rw [← hx, UInt8.toNat_ofNat']; omega
  obtain ⟨y, hy⟩ : ∃ y, UInt8.ofNat (97 + a2 % 26).toNat = y := ⟨_, rfl⟩
  have hyn : y.toNat = (97 + a2 % 26).toNat := by rw [← hy, UInt8.toNat_ofNat']; omega
  go_wp2
  go_loopw [8, 9] (fun s8 s9 wr => ∃ k : Nat, k ≤ n ∧ s9 = .int .i64 k ∧ s8 = .string (bs (List.replicate k x)) ∧ Below w.heap.size w wr) (fun _ s9 _ => n - (intOf s9).toNat)
  case atStart => exact ⟨0, by omega, rfl, rfl, hb0⟩
  case round =>
    obtain ⟨k, hk, rfl, rfl, hbw⟩ := hrel
    by_cases hkn : k < n
    · have hsz : (bs (List.replicate k x)).size ≤ 100 := by rw [bs_size]; simp; omega
      have hcv := conv1 wr (48 + a1) (by omega) (by omega)
      have hb2 := below_alloc wr (.cells #[.int .u8 (48 + a1)] 5)
      rw [hx] at hcv
      have hcat : bs (List.replicate k x) ++ bs [x] = bs (List.replicate (k + 1) x) := by
        rw [bs_app, ← List.replicate_succ']
      have hsz1 : (bs [x]).size = 1 := rfl
      generalize bs [x] = u1 at *
      generalize bs (List.replicate k x) = u at *
      replace hcat := hide hcat
      go_wp2
      go_roundw
      case rel => exact ⟨k + 1, by omega, by go_num, by rw [← unhide hcat], below3 hbw hb2⟩
      case measure => simp [intOf]; omega
    · obtain rfl : k = n := by omega
      have q1 := numbers_one k x (by omega) (by omega) (by omega) (by omega)
      have q2 := numbers_two k x y (by omega) (by omega) (by omega) (by omega) (by omega) (by omega)
      have hsz : (bs (List.replicate k x)).size ≤ 100 := by rw [bs_size]; simp; omega
      have c2 : (⟨#[43]⟩ : ByteArray) ++ bs (List.replicate k x) ++ bs [y] = bs ([43] ++ List.replicate k x ++ [y]) := by
        rw [show (⟨#[43]⟩ : ByteArray) = bs [43] from rfl, bs_app, bs_app]
      rw [← c2] at q2
      clear c2
      have hcv := fun wr => conv1 wr (97 + a2 % 26) (by omega) (by omega)
      rw [hy] at hcv
      have hsz1 : (bs [y]).size = 1 := rfl
      generalize bs [y] = u1 at *
      generalize bs (List.replicate k x) = u at *
      have s1 : ((⟨#[43]⟩ : ByteArray) ++ u).size ≤ 101 := by rw [ByteArray.size_append]; show 1 + u.size ≤ _; omega
      have H1 := fun w => pScan_any u w (by omega)
      have H2 := fun w => pScan_any (⟨#[43]⟩ ++ u ++ u1) w (by rw [ByteArray.size_append]; omega)
      rw [show scanR u (bigF u (flt u)) = scanS u from rfl] at H1
      rw [show scanR (⟨#[43]⟩ ++ u ++ u1) (bigF (⟨#[43]⟩ ++ u ++ u1) (flt (⟨#[43]⟩ ++ u ++ u1))) = scanS (⟨#[43]⟩ ++ u ++ u1) from rfl] at H2
      rw [q1] at H1
      rw [q2] at H2
      clear q1 q2
      generalize (scanS u).1 = T1 at *
      generalize (scanS u).2.1 = C1 at *
      generalize (scanS (⟨#[43]⟩ ++ u ++ u1)).1 = T2 at *
      generalize (scanS (⟨#[43]⟩ ++ u ++ u1)).2.1 = C2 at *
      replace H2 := hide H2
      replace hcv := hide hcv
      have hxz : (x.toNat = 48) ↔ a1 = 0 := by omega
      by_cases k12 : k ≤ 12
      · by_cases k1 : k = 1
        · rw [if_pos ⟨k12, .inl k1⟩] at H1
          replace H1 := hide H1
          subst k1
          go_wp2_with fail
          refine (unhide H1 _).mono ?_
          rintro e W2 ⟨vl, vc, rfl, _, _, hw2⟩
          have hcv := unhide hcv W2
          have hb2 := below_alloc W2 (.cells #[.int .u8 (97 + a2 % 26)] 5)
          go_wp2_with fail
          refine (unhide H2 _).mono ?_
          rintro e W3 ⟨ul, uc, rfl, _, _, hw3⟩
          go_wp2
          go_ret
          exact ⟨rfl, below3 (below3 (below3 hbw hw2) hb2) hw3⟩
        · by_cases k0 : a1 = 0
          · rw [if_neg (by omega)] at H1
            replace H1 := hide H1
            have k1' : ¬ (k : Int) = 1 := by omega
            have k12' : (k : Int) ≤ 12 := by omega
            go_wp2_with fail
            refine (unhide H1 _).mono ?_
            rintro e W2 ⟨vl, vc, rfl, _, _, hw2⟩
            have hcv := unhide hcv W2
            have hb2 := below_alloc W2 (.cells #[.int .u8 (97 + a2 % 26)] 5)
            go_wp2_with fail
            refine (unhide H2 _).mono ?_
            rintro e W3 ⟨ul, uc, rfl, _, _, hw3⟩
            go_wp2
            go_ret
            exact ⟨rfl, below3 (below3 (below3 hbw hw2) hb2) hw3⟩
          · rw [if_pos (by omega)] at H1
            replace H1 := hide H1
            have k1' : ¬ (k : Int) = 1 := by omega
            have m1 : ((k : Int) == 1) = false := beq_eq_false_iff_ne.2 k1'
            have m0 : (a1 != 0) = true := bne_iff_ne.2 k0
            have k12' : (k : Int) ≤ 12 := by omega
            go_wp2_with fail
            refine (unhide H1 _).mono ?_
            rintro e W2 ⟨vl, vc, rfl, _, _, hw2⟩
            have hcv := unhide hcv W2
            have hb2 := below_alloc W2 (.cells #[.int .u8 (97 + a2 % 26)] 5)
            go_wp2_with fail
            refine (unhide H2 _).mono ?_
            rintro e W3 ⟨ul, uc, rfl, _, _, hw3⟩
            go_wp2
            go_ret
            exact ⟨rfl, below3 (below3 (below3 hbw hw2) hb2) hw3⟩
      · rw [if_neg (by omega)] at H1
        replace H1 := hide H1
        have k12' : ¬ (k : Int) ≤ 12 := by omega
        go_wp2_with fail
        refine (unhide H1 _).mono ?_
        rintro e W2 ⟨vl, vc, rfl, _, _, hw2⟩
        have hcv := unhide hcv W2
        have hb2 := below_alloc W2 (.cells #[.int .u8 (97 + a2 % 26)] 5)
        go_wp2_with fail
        refine (unhide H2 _).mono ?_
        rintro e W3 ⟨ul, uc, rfl, _, _, hw3⟩
        go_wp2
        go_ret
        exact ⟨rfl, below3 (below3 (below3 hbw hw2) hb2) hw3⟩
theorem scanNumbers_shell (a0 : Int) (a1 : Int) (a2 : Int) (w0 : (Lit.int .i64 a0).wf = true) (w1 : (Lit.int .u8 a1).wf = true) (w2 : (Lit.int .u8 a2).wf = true) (w : World) :
    Calls Try.prog 3 #[.int .i64 a0, .int .u8 a1, .int .u8 a2] w fun e w' => e = .returned (.bool true) ∧ Below w.heap.size w w' :=
  scanNumbers_walk a0 a1 a2 (bounds_i64 w0) (bounds_u8 w1) (bounds_u8 w2) w
end Go.Proofs.Ytmhkmmcicfpakab

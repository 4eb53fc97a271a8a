/-
  ScanNames.
-/
import Derived.Test.YtmhkmmcicfpakabScanSym
import Derived.Test.YtmhkmmcicfpakabScanBegun
import Derived.Test.YtmhkmmcicfpakabScanConv
namespace Go.Proofs.Ytmhkmmcicfpakab
open Go.RowKit
set_option linter.unusedSimpArgs false
set_option linter.unusedVariables false
theorem names_scan (L : List UInt8) (hx : ∀ x ∈ L, 97 ≤ x.toNat ∧ x.toNat ≤ 122) (h1 : 1 ≤ L.length) (h2 : L.length ≤ 40) : (scanS (bs ([32, 32] ++ L))).2.2 = if L.length ≤ 24 then -1 else 2 := by
  obtain ⟨s, hs⟩ : ∃ s, bs ([32, 32] ++ L) = s := ⟨_, rfl⟩
  have hz : s.size = L.length + 2 := by rw [← hs, bs_size, List.length_append]; simp; omega
  have b0 : byteAt s 0 = 32 := by rw [← hs, byteAt_bs]; rfl
  have b1 : byteAt s 1 = 32 := by rw [← hs, byteAt_bs]; rfl
  have bi : ∀ i, 2 ≤ i → i < s.size → 97 ≤ byteAt s i ∧ byteAt s i ≤ 122 := fun i h3 h4 => by
    rw [← hs, byteAt_bs]
    have e : (([32, 32] ++ L : List UInt8).getD i 0) = L[i - 2]'(by omega) := by
      rw [List.getD, List.getElem?_append_right (by simpa using h3), List.getElem?_eq_getElem (by simp; omega)]
      rfl
    rw [e]
    exact hx _ (List.getElem_mem _)
  rw [hs, scanS_plain s (fun i hi => ?_) (by omega)]
  · have bl : ∀ i, 2 ≤ i → i < s.size → letB (byteAt s i) = true := fun i h3 h4 => (let_iff _).2 (by have := bi i h3 h4; omega)
    have ht : toN s true 2 = s.size := toN_eq L.length 2 s.size (by omega) (Nat.le_refl _) (fun i h3 h4 => by rw [clsB, bl i h3 h4]; simp) (.inl rfl)
    obtain ⟨m, hm⟩ : ∃ m, s.size = m + 1 + 1 + 1 := ⟨s.size - 3, by omega⟩
    have e0 : scanL s s.size sc0 = scanL s (m + 1) ⟨2, 1, [], []⟩ := by
      rw [hm, step_blank (x := sc0) (by show 0 < _; omega) b0]
      exact step_blank (x := ⟨1, 1, [], []⟩) (by show 1 < _; omega) b1
    by_cases h24 : L.length ≤ 24
    · have e1 := e0.trans ((step_name (x := ⟨2, 1, [], []⟩) (by show 2 < _; omega) (bl 2 (by omega) (by omega)) ht (by show s.size - 2 ≤ 24; omega)).trans (scanL_end (by exact Nat.le_refl s.size)))
      rw [scanR_ok e1 (by decide), if_pos h24]
    · have e1 := e0.trans (stop_name (x := ⟨2, 1, [], []⟩) (by show 2 < _; omega) (bl 2 (by omega) (by omega)) ht (by show ¬ s.size - 2 ≤ 24; omega))
      rw [scanR_stop e1, if_pos (.inl (by decide)), if_neg h24]
      rfl
  · by_cases h3 : i = 0
    · subst h3; omega
    · by_cases h4 : i = 1
      · subst h4; omega
      · have := bi i (by omega) hi; omega
def kindsL (l : List Tk) : List UInt8 := l.map fun t => UInt8.ofNat (48 + t.k).toNat
set_option maxHeartbeats 2000000 in
set_option maxRecDepth 100000 in
theorem kinds_any (s : ByteArray) (T : List Tk) (C : List Cm) (w : World) (hs : s.size ≤ 1000) (he : scanS s = (T, C, -1)) (hk : ∀ t ∈ T, 0 ≤ t.k ∧ t.k ≤ 7) (hn : T.length ≤ 1000) :
    Calls Try.prog 9 #[.string s] w fun e w' => e = .returned (.string (bs (kindsL T))) ∧ Below w.heap.size w w' := by
  have HP := pScan_any s w (by omega)
  rw [show scanR s (bigF s (flt s)) = scanS s from rfl, he] at HP
  replace HP := hide HP
  clear he
  go_enter Try.func9, Try.ntmps9
  go_wp2_with fail
  refine (unhide HP).mono ?_
  rintro e W1 ⟨vl, vc, rfl, ht, _, hw⟩
  replace ht := own_toks ht
  clear HP
  obtain ⟨a, ca, rfl, ha1, ha2, ha3⟩ := ht
  dsimp only at ha1 ha3 ⊢
  obtain ⟨n, hnn⟩ : ∃ n, T.length = n := ⟨_, rfl⟩
  rw [hnn] at ha1 ha3 hn ⊢
  replace ha3 := hide ha3
  go_wp2
  go_loopg [6, 7] n (fun gf s6 s7 wx => ∃ i : Nat, s7 = .int .i64 i ∧ i + gf = n ∧ s6 = .string (bs (kindsL (T.take i))) ∧ Below W1.heap.size W1 wx ∧ Below w.heap.size w wx)
  case atStart => exact ⟨0, rfl, by omega, by rw [List.take_zero]; rfl, Below.refl _ _, hw⟩
  case round =>
    obtain ⟨i, rfl, hi, rfl, hbw, hww⟩ := hrel
    by_cases hlt : i < n
    · obtain ⟨g', rfl⟩ : ∃ g', gk = g' + 1 := ⟨gk - 1, by omega⟩
      obtain ⟨ga, rfl, hga, hca⟩ := unhide ha3 (by omega)
      obtain ⟨t, ht⟩ : ∃ t, T[i]? = some t := ⟨T[i]'(by omega), List.getElem?_eq_getElem _⟩
      obtain ⟨a0, a1, a2, a3, a4⟩ := (hca i t ht).below hga hbw
      obtain ⟨k0, k1⟩ := hk t (List.mem_of_getElem? ht)
      have hlz : (i : Int) < n := by omega
      have hcv := conv1 wr (48 + t.k) (by omega) (by omega)
      have hb2 := below_alloc wr (.cells #[.int .u8 (48 + t.k)] 5)
      have hcat : bs (kindsL (T.take i)) ++ bs [UInt8.ofNat (48 + t.k).toNat] = bs (kindsL (T.take (i + 1))) := by
        rw [bs_app, List.take_add_one, ht]
        congr 1
        simp [kindsL]
      have hsz : (bs (kindsL (T.take i))).size ≤ 1000 := by rw [bs_size, kindsL, List.length_map, List.length_take]; omega
      have hsz1 : (bs [UInt8.ofNat (48 + t.k).toNat]).size = 1 := rfl
      have hwr1 : IntKind.i64.wrap (48 + t.k) = 48 + t.k := wrapI _ (by omega) (by omega)
      have hwr2 : IntKind.u8.wrap (48 + t.k) = 48 + t.k := by
        simp [IntKind.wrap, IntKind.signed, IntKind.bits]
        omega
      generalize bs [UInt8.ofNat (48 + t.k).toNat] = u1 at *
      generalize bs (kindsL (T.take i)) = u at *
      replace hcat := hide hcat
      clear hca
      go_wp2
      go_roundg g'
      case measure => omega
      case rel => exact ⟨i + 1, by go_num, by omega, by rw [← unhide hcat], below3 hbw hb2, below3 hww hb2⟩
    · have hlz : ¬ (i : Int) < n := by omega
      obtain rfl : i = n := by omega
      rw [List.take_of_length_le (by omega)]
      go_wp2
      go_ret
      exact ⟨rfl, hww⟩
theorem forx_scan : scanS (bs [102, 111, 114, 120]) = ([⟨1, bs [102, 111, 114, 120], 0, 1, false⟩, ⟨6, ⟨#[59]⟩, 4, 1, true⟩, ⟨7, ⟨#[]⟩, 4, 1, false⟩], [], -1) := by kernel_rfl
theorem for_scan : scanS (bs [102, 111, 114]) = ([⟨5, bs [102, 111, 114], 0, 1, false⟩, ⟨7, ⟨#[]⟩, 3, 1, false⟩], [], -1) := by kernel_rfl
set_option maxHeartbeats 2000000 in
set_option maxRecDepth 100000 in
theorem scanNames_walk (a0 a1 : Int) (w0 : -9223372036854775808 ≤ a0 ∧ a0 ≤ 9223372036854775807) (w1 : 0 ≤ a1 ∧ a1 ≤ 255) (w : World) :
    Calls Try.prog 4 #[.int .i64 a0, .int .u8 a1] w fun e w' => e = .returned (.bool true) ∧ Below w.heap.size w w' := by
  obtain ⟨hn1, hn2⟩ := w0
  have HB := hide (scanbegun_any w)
  have HX := hide (fun w => kinds_any _ _ _ w (by decide) forx_scan (by intro t ht; simp only [List.mem_cons, List.not_mem_nil, or_false] at ht; rcases ht with rfl | rfl | rfl <;> decide) (by decide))
  have HF := hide (fun w => kinds_any _ _ _ w (by decide) for_scan (by intro t ht; simp only [List.mem_cons, List.not_mem_nil, or_false] at ht; rcases ht with rfl | rfl <;> decide) (by decide))
  have e1 : (bs (kindsL [⟨1, bs [102, 111, 114, 120], 0, 1, false⟩, ⟨6, ⟨#[59]⟩, 4, 1, true⟩, ⟨7, ⟨#[]⟩, 4, 1, false⟩])).toList = [49, 54, 55] := by rw [ByteArray.toList_eq]; rfl
  have e2 : (bs (kindsL [⟨5, bs [102, 111, 114], 0, 1, false⟩, ⟨7, ⟨#[]⟩, 3, 1, false⟩])).toList = [53, 55] := by rw [ByteArray.toList_eq]; rfl
  generalize bs (kindsL [⟨1, bs [102, 111, 114, 120], 0, 1, false⟩, ⟨6, ⟨#[59]⟩, 4, 1, true⟩, ⟨7, ⟨#[]⟩, 4, 1, false⟩]) = r1 at *
  generalize bs (kindsL [⟨5, bs [102, 111, 114], 0, 1, false⟩, ⟨7, ⟨#[]⟩, 3, 1, false⟩]) = r2 at *
  rw [show bs [102, 111, 114, 120] = ⟨#[102, 111, 114, 120]⟩ from rfl] at HX
  rw [show bs [102, 111, 114] = ⟨#[102, 111, 114]⟩ from rfl] at HF
  go_enter Try.func4, Try.ntmps4
  go_wp2_with fail
  refine (unhide HB).mono ?_
  rintro e W0 ⟨rfl, hb0⟩
  clear HB
  by_cases h1 : a0 < 1
  · go_wp2
    go_ret
    exact ⟨rfl, hb0⟩
  by_cases h2 : 40 < a0
  · go_wp2
    go_ret
    exact ⟨rfl, hb0⟩
  obtain ⟨n, rfl⟩ := Int.eq_ofNat_of_zero_le (show 0 ≤ a0 by omega)
  go_wp2
  go_loopw [6, 7] (fun s6 s7 wr => ∃ (k : Nat) (L : List UInt8), k ≤ n ∧ s7 = .int .i64 k ∧ L.length = k ∧ (∀ x ∈ L, 97 ≤ x.toNat ∧ x.toNat ≤ 122) ∧ s6 = .string (bs L) ∧ Below w.heap.size w wr) (fun _ s7 _ => n - (intOf s7).toNat)
  case atStart => exact ⟨0, [], by omega, rfl, rfl, by simp, rfl, hb0⟩
  case round =>
    obtain ⟨k, L, hk, rfl, hL, hx, rfl, hbw⟩ := hrel
    by_cases hkn : k < n
    · have hsz : (bs L).size ≤ 100 := by rw [bs_size]; omega
      have hcv := conv1 wr (97 + (a1 + (k : Int)) % 256 % 26) (by omega) (by omega)
      have hb2 := below_alloc wr (.cells #[.int .u8 (97 + (a1 + (k : Int)) % 256 % 26)] 5)
      have hvb : 97 ≤ (UInt8.ofNat (97 + (a1 + (k : Int)) % 256 % 26).toNat).toNat ∧ (UInt8.ofNat (97 + (a1 + (k : Int)) % 256 % 26).toNat).toNat ≤ 122 := by
        rw [UInt8.toNat_ofNat']
        omega
      have hcat := bs_app L [UInt8.ofNat (97 + (a1 + (k : Int)) % 256 % 26).toNat]
      have hsz1 : (bs [UInt8.ofNat (97 + (a1 + (k : Int)) % 256 % 26).toNat]).size = 1 := rfl
      have hrel : ∃ L' : List UInt8, L'.length = k + 1 ∧ (∀ x ∈ L', 97 ≤ x.toNat ∧ x.toNat ≤ 122) ∧ bs L ++ bs [UInt8.ofNat (97 + (a1 + (k : Int)) % 256 % 26).toNat] = bs L' := ⟨L ++ [UInt8.ofNat (97 + (a1 + (k : Int)) % 256 % 26).toNat], by simp [hL], fun x hm => by
        rw [List.mem_append] at hm
        rcases hm with hm | hm
        · exact hx x hm
        · simp only [List.mem_cons, List.not_mem_nil, or_false] at hm
          rw [hm]; exact hvb, hcat⟩
      replace hrel := hide hrel
      clear hcat hvb
      generalize bs [UInt8.ofNat (97 + (a1 + (k : Int)) % 256 % 26).toNat] = u1 at *
      generalize bs L = u at *
      go_wp2
      go_roundw
      case rel =>
        obtain ⟨L', f1, f2, f3⟩ := unhide hrel
        exact ⟨k + 1, L', by omega, by go_num, f1, f2, by rw [f3], below3 hbw hb2⟩
      case measure => simp [intOf]; omega
    · obtain rfl : k = n := by omega
      have hns := names_scan L hx (by omega) (by omega)
      have HP := fun w => pScan_any (bs ([32, 32] ++ L)) w (by rw [bs_size, List.length_append]; simp; omega)
      rw [show scanR (bs ([32, 32] ++ L)) (bigF (bs ([32, 32] ++ L)) (flt (bs ([32, 32] ++ L)))) = scanS (bs ([32, 32] ++ L)) from rfl] at HP
      have hcat : (⟨#[32, 32]⟩ : ByteArray) ++ bs L = bs ([32, 32] ++ L) := bs_app [32, 32] L
      have hsz : (bs L).size ≤ 100 := by rw [bs_size]; omega
      rw [← hcat] at HP hns
      generalize scanS (⟨#[32, 32]⟩ ++ bs L) = R at *
      obtain ⟨T, C, bd⟩ := R
      dsimp only at hns HP
      rw [hL] at hns
      clear hcat hx hL
      generalize bs L = u at *
      by_cases h24 : k ≤ 24
      · rw [if_pos h24] at hns
        subst hns
        have h24' : (k : Int) ≤ 24 := by omega
        replace HP := hide HP
        go_wp2_with fail
        refine (unhide HP _).mono ?_
        rintro e W2 ⟨vl, vc, rfl, _, _, hw2⟩
        go_wp2_with fail
        refine (unhide HX _).mono ?_
        rintro e W3 ⟨rfl, hw3⟩
        go_wp2_with fail
        refine (unhide HF _).mono ?_
        rintro e W4 ⟨rfl, hw4⟩
        go_wp2
        go_ret
        exact ⟨rfl, below3 (below3 (below3 hbw hw2) hw3) hw4⟩
      · rw [if_neg h24] at hns
        subst hns
        have h24' : ¬ (k : Int) ≤ 24 := by omega
        replace HP := hide HP
        go_wp2_with fail
        refine (unhide HP _).mono ?_
        rintro e W2 ⟨vl, vc, rfl, _, _, hw2⟩
        go_wp2_with fail
        refine (unhide HX _).mono ?_
        rintro e W3 ⟨rfl, hw3⟩
        go_wp2_with fail
        refine (unhide HF _).mono ?_
        rintro e W4 ⟨rfl, hw4⟩
        go_wp2
        go_ret
        exact ⟨ret_bool (by rw [decide_eq_false (show ¬ (k : Int) ≤ 24 by omega)]; rfl), below3 (below3 (below3 hbw hw2) hw3) hw4⟩
theorem scanNames_shell (a0 : Int) (a1 : Int) (w0 : (Lit.int .i64 a0).wf = true) (w1 : (Lit.int .u8 a1).wf = true) (w : World) :
    Calls Try.prog 4 #[.int .i64 a0, .int .u8 a1] w fun e w' => e = .returned (.bool true) ∧ Below w.heap.size w w' :=
  scanNames_walk a0 a1 (bounds_i64 w0) (bounds_u8 w1) w
end Go.Proofs.Ytmhkmmcicfpakab

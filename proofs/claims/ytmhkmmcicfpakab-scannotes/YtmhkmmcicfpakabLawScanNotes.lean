/-
  ScanNotes.
-/
import Derived.Test.YtmhkmmcicfpakabScanConv
import Derived.Test.YtmhkmmcicfpakabScanBegun
import Derived.Deep.DeepCutAuto
namespace Go.Proofs.Ytmhkmmcicfpakab
open Go.RowKit
set_option linter.unusedSimpArgs false
set_option linter.unusedVariables false
/-- A word or a plus, a blank, a remark, a newline, a word. -/
theorem notes_head (n : Nat) (x h : UInt8) (h1 : 32 ≤ x.toNat) (h2 : x.toNat ≤ 126) (hh : h = 43 ∨ h = 97) :
    ∀ s, s = bs ([h, 32, 47, 47] ++ List.replicate n x ++ [10, 98]) → s.size = n + 6 ∧ (∀ i, i < s.size → (32 ≤ byteAt s i ∧ byteAt s i < 127) ∨ byteAt s i = 10) ∧ byteAt s 0 = h.toNat ∧ byteAt s 1 = 32 ∧ byteAt s 2 = 47 ∧ byteAt s 3 = 47 ∧ nlN s 2 = n + 4 ∧ byteAt s (n + 4) = 10 ∧ byteAt s (n + 5) = 98 ∧ s.extract 2 (n + 4) = bs ([47, 47] ++ List.replicate n x) ∧ s.extract (n + 5) (n + 6) = bs [98] ∧ s.extract 0 1 = bs [h] := by
  intro s hs
  have hb : ∀ i, byteAt s i = (if i < 4 then ([h, 32, 47, 47] : List UInt8).getD i 0 else if i < 4 + n then x else ([10, 98] : List UInt8).getD (i - 4 - n) 0).toNat := fun i => by rw [hs, byteAt_bs, getD3]; rfl
  have hz : s.size = n + 6 := by rw [hs, bs_size]; simp
  have b0 : byteAt s 0 = h.toNat := by rw [hb]; rfl
  have b1 : byteAt s 1 = 32 := by rw [hb]; rfl
  have b2 : byteAt s 2 = 47 := by rw [hb]; rfl
  have b3 : byteAt s 3 = 47 := by rw [hb]; rfl
  have bm : ∀ i, 4 ≤ i → i < n + 4 → byteAt s i = x.toNat := fun i k1 k2 => by rw [hb, if_neg (by omega), if_pos (by omega)]
  have b4 : byteAt s (n + 4) = 10 := by rw [hb, if_neg (by omega), if_neg (by omega), show n + 4 - 4 - n = 0 by omega]; rfl
  have b5 : byteAt s (n + 5) = 98 := by rw [hb, if_neg (by omega), if_neg (by omega), show n + 5 - 4 - n = 1 by omega]; rfl
  refine ⟨hz, fun i hi => ?_, b0, b1, b2, b3, ?_, b4, b5, ?_, ?_, ?_⟩
  · by_cases k0 : i = 0
    · rw [k0, b0]; rcases hh with rfl | rfl <;> decide
    by_cases k1 : i = 1
    · rw [k1, b1]; omega
    by_cases k2 : i = 2
    · rw [k2, b2]; omega
    by_cases k3 : i = 3
    · rw [k3, b3]; omega
    by_cases k4 : i < n + 4
    · rw [bm i (by omega) k4]; omega
    · obtain k | k : i = n + 4 ∨ i = n + 5 := by omega
      · rw [k, b4]; omega
      · rw [k, b5]; omega
  · refine nlN_eq (n + 2) 2 (n + 4) (by omega) (by omega) (fun i k1 k2 => ?_) (.inr b4)
    by_cases k3 : i = 2
    · rw [k3, b2]; omega
    by_cases k4 : i = 3
    · rw [k4, b3]; omega
    · rw [bm i (by omega) k2]; omega
  · rw [hs, extract_bs]
    congr 1
    rw [List.take_append_of_le_length (by simp), List.take_of_length_le (by simp)]
    rfl
  · rw [hs, extract_bs]
    congr 1
    rw [List.take_of_length_le (by simp), List.drop_append, List.drop_eq_nil_of_le (by simp)]
    simp
  · rw [hs, extract_bs]
    rfl
theorem notes_word (n : Nat) (x : UInt8) (h1 : 32 ≤ x.toNat) (h2 : x.toNat ≤ 126) (hn : n ≤ 30) :
    scanS (bs ([97, 32, 47, 47] ++ List.replicate n x ++ [10, 98])) = ([⟨1, bs [97], 0, 1, false⟩, ⟨6, ⟨#[59]⟩, 2, 1, true⟩, ⟨1, bs [98], (n + 5 : Nat), 2, false⟩, ⟨6, ⟨#[59]⟩, (n + 6 : Nat), 2, true⟩, ⟨7, ⟨#[]⟩, (n + 6 : Nat), 2, false⟩], [⟨bs ([47, 47] ++ List.replicate n x), 2, 1, 2⟩], -1) := by
  obtain ⟨s, hs⟩ : ∃ s, bs ([97, 32, 47, 47] ++ List.replicate n x ++ [10, 98]) = s := ⟨_, rfl⟩
  obtain ⟨hz, hp, b0, b1, b2, b3, hnl, b4, b5, x1, x2, x3⟩ := notes_head n x 97 h1 h2 (.inr rfl) s hs.symm
  rw [hs, scanS_plain s hp (by omega)]
  obtain ⟨m, hm⟩ : ∃ m, s.size = m + 1 + 1 + 1 + 1 + 1 := ⟨s.size - 5, by omega⟩
  have t0 : toN s true 0 = 1 := toN_eq 1 0 1 rfl (by omega) (fun i k1 k2 => by rw [show i = 0 by omega, b0]; rfl) (.inr (by rw [b1]; rfl))
  have t5 : toN s true (n + 5) = n + 6 := toN_eq 1 (n + 5) (n + 6) (by omega) (by omega) (fun i k1 k2 => by rw [show i = n + 5 by omega, b5]; rfl) (.inl hz.symm)
  have s0 : ∀ f, scanL s (f + 1) sc0 = scanL s f ⟨1, 1, [⟨1, bs [97], 0, 1, false⟩], []⟩ := fun f => by
    rw [step_name (x := sc0) (by show 0 < _; omega) (by show letB (byteAt s 0) = true; rw [b0]; rfl) t0 (by show 1 - 0 ≤ 24; omega)]
    show scanL s f (Sc.add s sc0 (if isKey (s.extract 0 1) = true then 5 else 1) 1) = _
    rw [x3, show isKey (bs [97]) = false from by decide]
    show scanL s f ⟨1, 1, [] ++ [⟨1, s.extract 0 1, 0, 1, false⟩], []⟩ = _
    rw [x3]
    rfl
  have e0 : scanL s s.size sc0 = (true, ⟨n + 6, 2, [⟨1, bs [97], 0, 1, false⟩, ⟨6, ⟨#[59]⟩, 2, 1, true⟩, ⟨1, bs [98], (n + 5 : Nat), 2, false⟩], [⟨bs ([47, 47] ++ List.replicate n x), 2, 1, 2⟩]⟩) := by
    rw [hm, s0, step_blank (x := ⟨1, 1, [⟨1, bs [97], 0, 1, false⟩], []⟩) (by show 1 < _; omega) b1]
    rw [step_com (x := ⟨1 + 1, 1, [⟨1, bs [97], 0, 1, false⟩], []⟩) (by show 2 < _; omega) b2 (by show 3 < _; omega) b3]
    have ec : Sc.com s ⟨1 + 1, 1, [⟨1, bs [97], 0, 1, false⟩], []⟩ = ⟨n + 4, 1, [⟨1, bs [97], 0, 1, false⟩, ⟨6, ⟨#[59]⟩, 2, 1, true⟩], [⟨bs ([47, 47] ++ List.replicate n x), 2, 1, 2⟩]⟩ := by
      show (⟨nlN s 2, 1, _, [] ++ [⟨s.extract 2 (nlN s 2), 2, 1, _⟩]⟩ : Sc) = _
      rw [hnl, x1]
      rfl
    rw [ec, step_nl (x := ⟨n + 4, 1, [⟨1, bs [97], 0, 1, false⟩, ⟨6, ⟨#[59]⟩, 2, 1, true⟩], [⟨bs ([47, 47] ++ List.replicate n x), 2, 1, 2⟩]⟩) (by show n + 4 < _; omega) b4]
    show scanL s (m + 1) ⟨n + 5, 2, [⟨1, bs [97], 0, 1, false⟩, ⟨6, ⟨#[59]⟩, 2, 1, true⟩], [⟨bs ([47, 47] ++ List.replicate n x), 2, 1, 2⟩]⟩ = _
    rw [step_name (x := ⟨n + 5, 2, [⟨1, bs [97], 0, 1, false⟩, ⟨6, ⟨#[59]⟩, 2, 1, true⟩], [⟨bs ([47, 47] ++ List.replicate n x), 2, 1, 2⟩]⟩) (by show n + 5 < _; omega) (by show letB (byteAt s (n + 5)) = true; rw [b5]; rfl) t5 (by show n + 6 - (n + 5) ≤ 24; omega)]
    show scanL s m (Sc.add s _ (if isKey (s.extract (n + 5) (n + 6)) = true then 5 else 1) (n + 6)) = _
    rw [scanL_end (by show s.size ≤ n + 6; omega), x2, show isKey (bs [98]) = false from by decide]
    show (true, (⟨n + 6, 2, _ ++ [⟨1, s.extract (n + 5) (n + 6), (n + 5 : Nat), 2, false⟩], _⟩ : Sc)) = _
    rw [x2]
    rfl
  rw [scanR_ok e0 (by decide)]
  rw [hz]
  rfl
theorem notes_plus (n : Nat) (x : UInt8) (h1 : 32 ≤ x.toNat) (h2 : x.toNat ≤ 126) (hn : n ≤ 30) :
    scanS (bs ([43, 32, 47, 47] ++ List.replicate n x ++ [10, 98])) = ([⟨4, bs [43], 0, 1, false⟩, ⟨1, bs [98], (n + 5 : Nat), 2, false⟩, ⟨6, ⟨#[59]⟩, (n + 6 : Nat), 2, true⟩, ⟨7, ⟨#[]⟩, (n + 6 : Nat), 2, false⟩], [⟨bs ([47, 47] ++ List.replicate n x), 2, 1, 1⟩], -1) := by
  obtain ⟨s, hs⟩ : ∃ s, bs ([43, 32, 47, 47] ++ List.replicate n x ++ [10, 98]) = s := ⟨_, rfl⟩
  obtain ⟨hz, hp, b0, b1, b2, b3, hnl, b4, b5, x1, x2, x3⟩ := notes_head n x 43 h1 h2 (.inl rfl) s hs.symm
  rw [hs, scanS_plain s hp (by omega)]
  obtain ⟨m, hm⟩ : ∃ m, s.size = m + 1 + 1 + 1 + 1 + 1 := ⟨s.size - 5, by omega⟩
  have t5 : toN s true (n + 5) = n + 6 := toN_eq 1 (n + 5) (n + 6) (by omega) (by omega) (fun i k1 k2 => by rw [show i = n + 5 by omega, b5]; rfl) (.inl hz.symm)
  have s0 : ∀ f, scanL s (f + 1) sc0 = scanL s f ⟨1, 1, [⟨4, bs [43], 0, 1, false⟩], []⟩ := fun f => by
    rw [step_plus (x := sc0) (by show 0 < _; omega) (by show byteAt s 0 = 43; rw [b0]; rfl) x3]
    show scanL s f ⟨1, 1, [] ++ [⟨4, s.extract 0 1, 0, 1, false⟩], []⟩ = _
    rw [x3]
    rfl
  have e0 : scanL s s.size sc0 = (true, ⟨n + 6, 2, [⟨4, bs [43], 0, 1, false⟩, ⟨1, bs [98], (n + 5 : Nat), 2, false⟩], [⟨bs ([47, 47] ++ List.replicate n x), 2, 1, 1⟩]⟩) := by
    rw [hm, s0, step_blank (x := ⟨1, 1, [⟨4, bs [43], 0, 1, false⟩], []⟩) (by show 1 < _; omega) b1]
    rw [step_com (x := ⟨1 + 1, 1, [⟨4, bs [43], 0, 1, false⟩], []⟩) (by show 2 < _; omega) b2 (by show 3 < _; omega) b3]
    have ec : Sc.com s ⟨1 + 1, 1, [⟨4, bs [43], 0, 1, false⟩], []⟩ = ⟨n + 4, 1, [⟨4, bs [43], 0, 1, false⟩], [⟨bs ([47, 47] ++ List.replicate n x), 2, 1, 1⟩]⟩ := by
      show (⟨nlN s 2, 1, _, [] ++ [⟨s.extract 2 (nlN s 2), 2, 1, _⟩]⟩ : Sc) = _
      rw [hnl, x1]
      rfl
    rw [ec, step_nl (x := ⟨n + 4, 1, [⟨4, bs [43], 0, 1, false⟩], [⟨bs ([47, 47] ++ List.replicate n x), 2, 1, 1⟩]⟩) (by show n + 4 < _; omega) b4]
    show scanL s (m + 1) ⟨n + 5, 2, [⟨4, bs [43], 0, 1, false⟩], [⟨bs ([47, 47] ++ List.replicate n x), 2, 1, 1⟩]⟩ = _
    rw [step_name (x := ⟨n + 5, 2, [⟨4, bs [43], 0, 1, false⟩], [⟨bs ([47, 47] ++ List.replicate n x), 2, 1, 1⟩]⟩) (by show n + 5 < _; omega) (by show letB (byteAt s (n + 5)) = true; rw [b5]; rfl) t5 (by show n + 6 - (n + 5) ≤ 24; omega)]
    show scanL s m (Sc.add s _ (if isKey (s.extract (n + 5) (n + 6)) = true then 5 else 1) (n + 6)) = _
    rw [scanL_end (by show s.size ≤ n + 6; omega), x2, show isKey (bs [98]) = false from by decide]
    show (true, (⟨n + 6, 2, _ ++ [⟨1, s.extract (n + 5) (n + 6), (n + 5 : Nat), 2, false⟩], _⟩ : Sc)) = _
    rw [x2]
    rfl
  rw [scanR_ok e0 (by decide)]
  rw [hz]
  rfl
set_option maxHeartbeats 2000000 in
set_option maxRecDepth 100000 in
theorem scanNotes_walk (a0 a1 : Int) (a2 : Bool) (w0 : -9223372036854775808 ≤ a0 ∧ a0 ≤ 9223372036854775807) (w1 : 0 ≤ a1 ∧ a1 ≤ 255) (w : World) :
    Calls Try.prog 6 #[.int .i64 a0, .int .u8 a1, .bool a2] w fun e w' => e = .returned (.bool true) ∧ Below w.heap.size w w' := by
  obtain ⟨hn1, hn2⟩ := w0
  have HB := hide (scanbegun_any w)
  go_enter Try.func6, Try.ntmps6
  go_wp2_with fail
  refine (unhide HB).mono ?_
  rintro e W0 ⟨rfl, hb0⟩
  clear HB
  by_cases h1 : a0 < 0
  · go_wp2
    go_ret
    exact ⟨rfl, hb0⟩
  by_cases h2 : 30 < a0
  · go_wp2
    go_ret
    exact ⟨rfl, hb0⟩
  by_cases h3 : a1 < 32
  · go_wp2
    go_ret
    exact ⟨rfl, hb0⟩
  by_cases h4 : 126 < a1
  · go_wp2
    go_ret
    exact ⟨rfl, hb0⟩
  obtain ⟨n, rfl⟩ := Int.eq_ofNat_of_zero_le (show 0 ≤ a0 by omega)
  obtain ⟨x, hx⟩ : ∃ x, UInt8.ofNat a1.toNat = x := ⟨_, rfl⟩
  have hxn : x.toNat = a1.toNat := by rw [← hx, UInt8.toNat_ofNat']; omega
  have HH : ∀ (h : UInt8) (k : Nat), bs [h] ++ (⟨#[32]⟩ : ByteArray) ++ bs ([47, 47] ++ List.replicate k x) ++ (⟨#[10, 98]⟩ : ByteArray) = bs ([h, 32, 47, 47] ++ List.replicate k x ++ [10, 98]) := fun h k => by
    rw [show (⟨#[32]⟩ : ByteArray) = bs [32] from rfl, show (⟨#[10, 98]⟩ : ByteArray) = bs [10, 98] from rfl, bs_app, bs_app, bs_app]
    congr 1
  cases a2 with
  | false =>
    go_wp2
    go_loopw [9, 10] (fun s9 s10 wr => ∃ k : Nat, k ≤ n ∧ s10 = .int .i64 k ∧ s9 = .string (bs ([47, 47] ++ List.replicate k x)) ∧ Below w.heap.size w wr) (fun _ s10 _ => n - (intOf s10).toNat)
    case atStart => exact ⟨0, by omega, rfl, rfl, hb0⟩
    case round =>
      obtain ⟨k, hk, rfl, rfl, hbw⟩ := hrel
      by_cases hkn : k < n
      · have hsz : (bs ([47, 47] ++ List.replicate k x)).size ≤ 100 := by rw [bs_size]; simp; omega
        have hcv := conv1 wr a1 (by omega) (by omega)
        have hb2 := below_alloc wr (.cells #[.int .u8 a1] 5)
        rw [hx] at hcv
        have hcat : bs ([47, 47] ++ List.replicate k x) ++ bs [x] = bs ([47, 47] ++ List.replicate (k + 1) x) := by
          rw [bs_app, List.append_assoc, ← List.replicate_succ']
        have hsz1 : (bs [x]).size = 1 := rfl
        generalize bs [x] = u1 at *
        generalize bs ([47, 47] ++ List.replicate k x) = u at *
        replace hcat := hide hcat
        clear HH
        go_wp2
        go_roundw
        case rel => exact ⟨k + 1, by omega, by go_num, by rw [← unhide hcat], below3 hbw hb2⟩
        case measure => simp [intOf]; omega
      · obtain rfl : k = n := by omega
        have q := notes_plus k x (by omega) (by omega) (by omega)
        have hu := HH 43 k
        rw [← hu] at q
        have hsz : (bs ([47, 47] ++ List.replicate k x)).size ≤ 100 := by rw [bs_size]; simp; omega
        clear hu HH
        generalize bs ([47, 47] ++ List.replicate k x) = u at *
        rw [show bs [43] = ⟨#[43]⟩ from rfl, show bs [98] = ⟨#[98]⟩ from rfl] at q
        have s1 : ((⟨#[43]⟩ : ByteArray) ++ ⟨#[32]⟩).size ≤ 2 := by decide
        have s2 : ((⟨#[43]⟩ : ByteArray) ++ ⟨#[32]⟩ ++ u).size ≤ 102 := by rw [ByteArray.size_append]; omega
        have H1 := fun w => pScan_any (⟨#[43]⟩ ++ ⟨#[32]⟩ ++ u ++ ⟨#[10, 98]⟩) w (by rw [ByteArray.size_append]; show _ + 2 ≤ _; omega)
        rw [show scanR (⟨#[43]⟩ ++ ⟨#[32]⟩ ++ u ++ ⟨#[10, 98]⟩) (bigF (⟨#[43]⟩ ++ ⟨#[32]⟩ ++ u ++ ⟨#[10, 98]⟩) (flt (⟨#[43]⟩ ++ ⟨#[32]⟩ ++ u ++ ⟨#[10, 98]⟩))) = scanS (⟨#[43]⟩ ++ ⟨#[32]⟩ ++ u ++ ⟨#[10, 98]⟩) from rfl, q] at H1
        have e98 : (⟨#[98]⟩ : ByteArray).toList = [98] := by rw [ByteArray.toList_eq]
        have euu : (u.toList == u.toList) = true := by simp
        replace H1 := hide H1
        clear q
        go_wp2_with fail
        refine (unhide H1 _).mono ?_
        rintro e W2 ⟨vl, vc, rfl, ht, hc, hw2⟩
        replace ht := own_toks ht
        replace hc := own_coms hc
        obtain ⟨a, ca, rfl, ha1, ha2, ha3⟩ := ht
        obtain ⟨b, cb, rfl, hb1, hb2, hb3⟩ := hc
        obtain ⟨ga, rfl, hga, hca⟩ := ha3 (by simp)
        obtain ⟨gb, rfl, hgb, hcb⟩ := hb3 (by simp)
        obtain ⟨p0, p1, p2, p3, p4⟩ := hca 1 _ rfl
        obtain ⟨c0, c1, c2, c3⟩ := hcb 0 _ rfl
        simp only [Nat.reduceMul, Nat.reduceAdd, List.length_cons, List.length_nil] at *
        clear hca ha3 hb3 hcb
        go_wp2
        go_ret
        exact ⟨rfl, below3 hbw hw2⟩
  | true =>
    go_wp2
    go_loopw [9, 10] (fun s9 s10 wr => ∃ k : Nat, k ≤ n ∧ s10 = .int .i64 k ∧ s9 = .string (bs ([47, 47] ++ List.replicate k x)) ∧ Below w.heap.size w wr) (fun _ s10 _ => n - (intOf s10).toNat)
    case atStart => exact ⟨0, by omega, rfl, rfl, hb0⟩
    case round =>
      obtain ⟨k, hk, rfl, rfl, hbw⟩ := hrel
      by_cases hkn : k < n
      · have hsz : (bs ([47, 47] ++ List.replicate k x)).size ≤ 100 := by rw [bs_size]; simp; omega
        have hcv := conv1 wr a1 (by omega) (by omega)
        have hb2 := below_alloc wr (.cells #[.int .u8 a1] 5)
        rw [hx] at hcv
        have hcat : bs ([47, 47] ++ List.replicate k x) ++ bs [x] = bs ([47, 47] ++ List.replicate (k + 1) x) := by
          rw [bs_app, List.append_assoc, ← List.replicate_succ']
        have hsz1 : (bs [x]).size = 1 := rfl
        generalize bs [x] = u1 at *
        generalize bs ([47, 47] ++ List.replicate k x) = u at *
        replace hcat := hide hcat
        clear HH
        go_wp2
        go_roundw
        case rel => exact ⟨k + 1, by omega, by go_num, by rw [← unhide hcat], below3 hbw hb2⟩
        case measure => simp [intOf]; omega
      · obtain rfl : k = n := by omega
        have q := notes_word k x (by omega) (by omega) (by omega)
        have hu := HH 97 k
        rw [← hu] at q
        have hsz : (bs ([47, 47] ++ List.replicate k x)).size ≤ 100 := by rw [bs_size]; simp; omega
        clear hu HH
        generalize bs ([47, 47] ++ List.replicate k x) = u at *
        rw [show bs [97] = ⟨#[97]⟩ from rfl, show bs [98] = ⟨#[98]⟩ from rfl] at q
        have s1 : ((⟨#[97]⟩ : ByteArray) ++ ⟨#[32]⟩).size ≤ 2 := by decide
        have s2 : ((⟨#[97]⟩ : ByteArray) ++ ⟨#[32]⟩ ++ u).size ≤ 102 := by rw [ByteArray.size_append]; omega
        have H1 := fun w => pScan_any (⟨#[97]⟩ ++ ⟨#[32]⟩ ++ u ++ ⟨#[10, 98]⟩) w (by rw [ByteArray.size_append]; show _ + 2 ≤ _; omega)
        rw [show scanR (⟨#[97]⟩ ++ ⟨#[32]⟩ ++ u ++ ⟨#[10, 98]⟩) (bigF (⟨#[97]⟩ ++ ⟨#[32]⟩ ++ u ++ ⟨#[10, 98]⟩) (flt (⟨#[97]⟩ ++ ⟨#[32]⟩ ++ u ++ ⟨#[10, 98]⟩))) = scanS (⟨#[97]⟩ ++ ⟨#[32]⟩ ++ u ++ ⟨#[10, 98]⟩) from rfl, q] at H1
        have e98 : (⟨#[98]⟩ : ByteArray).toList = [98] := by rw [ByteArray.toList_eq]
        have euu : (u.toList == u.toList) = true := by simp
        replace H1 := hide H1
        clear q
        go_wp2_with fail
        refine (unhide H1 _).mono ?_
        rintro e W2 ⟨vl, vc, rfl, ht, hc, hw2⟩
        replace ht := own_toks ht
        replace hc := own_coms hc
        obtain ⟨a, ca, rfl, ha1, ha2, ha3⟩ := ht
        obtain ⟨b, cb, rfl, hb1, hb2, hb3⟩ := hc
        obtain ⟨ga, rfl, hga, hca⟩ := ha3 (by simp)
        obtain ⟨gb, rfl, hgb, hcb⟩ := hb3 (by simp)
        obtain ⟨p0, p1, p2, p3, p4⟩ := hca 2 _ rfl
        obtain ⟨c0, c1, c2, c3⟩ := hcb 0 _ rfl
        simp only [Nat.reduceMul, Nat.reduceAdd, List.length_cons, List.length_nil] at *
        clear hca ha3 hb3 hcb
        go_wp2
        go_ret
        exact ⟨rfl, below3 hbw hw2⟩
theorem scanNotes_shell (a0 : Int) (a1 : Int) (a2 : Bool) (w0 : (Lit.int .i64 a0).wf = true) (w1 : (Lit.int .u8 a1).wf = true) (w : World) :
    Calls Try.prog 6 #[.int .i64 a0, .int .u8 a1, .bool a2] w fun e w' => e = .returned (.bool true) ∧ Below w.heap.size w w' :=
  scanNotes_walk a0 a1 a2 (bounds_i64 w0) (bounds_u8 w1) w
end Go.Proofs.Ytmhkmmcicfpakab

/-
  The walk of the reference's Sum, bit by bit; what each law of crc begins with.
-/
import Derived.Test.YtjnempfjoebojaaDoorCrcWalk
import Derived.Lib.SlBytesConst
namespace Go.Proofs.YtjnempfjoebojaaDoor
open Go.RowKit
theorem st_odd (q : Nat) (h : q % 2 = 1) (hq : q < 4294967296) : bits .xor .u32 ((q : Int) / 2) 3988292384 = ((st q : Nat) : Int) := by
  have := u32_xor_nat (q / 2) 3988292384 (by omega) (by omega)
  unfold st
  rw [if_pos h, ← this]
  rfl
theorem st_even (q : Nat) (h : ¬ q % 2 = 1) : ((q : Int) / 2) = ((st q : Nat) : Int) := by
  unfold st
  rw [if_neg h]
  rfl
theorem sts_step (n q : Nat) (h : 0 < n) : sts (n - 1) (st q) = sts n q := by
  obtain ⟨m, rfl⟩ : ∃ m, n = m + 1 := ⟨n - 1, by omega⟩
  rfl
set_option maxHeartbeats 400000 in
set_option maxRecDepth 100000 in
theorem rsum_some (b off cap : Nat) (xs : List Int) (w : World) (hx : Byt xs) (hm : xs.length ≤ 9223372036854775807)
    (hc : ∀ i, i < xs.length → w.cell? ⟨b, off + i, none⟩ = some (.int .u8 (xs.getD i 0))) :
    Calls Tryd.prog 10 #[.slice (some ⟨b, off, none⟩) xs.length cap] w fun e w' => e = .returned (.int .u32 (sumM xs : Nat)) ∧ w' = w := by
  have HC : Hid (∀ i, i < xs.length → w.cell? ⟨b, off + i, none⟩ = some (.int .u8 (xs.getD i 0))) := hc
  clear hc
  go_enter Tryd.func10, Tryd.ntmps10
  go_wp2
  go_loop [3, 4] (fun rs ks => ∃ k r : Nat, k ≤ xs.length ∧ ks = .int .i64 k ∧ rs = .int .u32 r ∧ r < 4294967296 ∧ crcF r (xs.drop k) = crcF 4294967295 xs) (fun _ k => xs.length - (intOf k).toNat)
  case atStart => exact ⟨0, 4294967295, by omega, rfl, rfl, by omega, rfl⟩
  case round =>
    obtain ⟨k, r, hk, rfl, rfl, hr, hg⟩ := hrel
    by_cases hlt : k < xs.length
    · have hck := HC.out k hlt
      have hcr := byt_getD hx k hlt
      rw [drop_getD xs k hlt] at hg
      generalize xs.getD k 0 = c at hck hcr hg
      obtain ⟨cn, rfl⟩ := Int.eq_ofNat_of_zero_le hcr.1
      have hcn : cn < 256 := by omega
      have hxo := u32_xor_nat r cn hr (by omega)
      have HR1 := hide (xor_lt32 hr (show cn < 4294967296 by omega))
      rw [crcF_cons, Int.toNat_natCast] at hg
      have HG := hide hg
      clear hg
      generalize r ^^^ cn = q0 at *
      go_wp2
      go_loop [3, 5] (fun rs js => ∃ j q : Nat, j ≤ 8 ∧ js = .int .i64 j ∧ rs = .int .u32 q ∧ q < 4294967296 ∧ sts (8 - j) q = sts 8 q0) (fun _ j => 8 - (intOf j).toNat)
      case atStart => exact ⟨0, q0, by omega, rfl, rfl, unhide HR1, rfl⟩
      case round =>
        obtain ⟨j, q, hj, rfl, rfl, hq, hs⟩ := hrel
        by_cases hj8 : j < 8
        · rw [← sts_step (8 - j) q (by omega)] at hs
          have HS := hide hs
          have HL := hide (st_lt q hq)
          by_cases ho : q % 2 = 1
          · have h1 := st_odd q ho hq
            clear hs
            generalize st q = q1 at *
            have hb : ((q : Int) % 2 == 1) = true := by simp; omega
            go_wp2
            go_round
            case rel => exact ⟨j + 1, q1, by omega, by go_num, rfl, unhide HL, by rw [show 8 - (j + 1) = 8 - j - 1 by omega]; exact unhide HS⟩
            case measure => simp [intOf]; omega
          · have h1 := st_even q ho
            clear hs
            generalize st q = q1 at *
            have hb : ((q : Int) % 2 == 1) = false := by simp; omega
            go_wp2
            go_round
            case rel => exact ⟨j + 1, q1, by omega, by go_num, rfl, unhide HL, by rw [show 8 - (j + 1) = 8 - j - 1 by omega]; exact unhide HS⟩
            case measure => simp [intOf]; omega
        · have hq0 : q = sts 8 q0 := by rw [← hs, show 8 - j = 0 by omega]; rfl
          have HQ := hide hq0
          clear hs hq0
          go_wp2
          go_round
          case rel => exact ⟨k + 1, q, by omega, by go_num, rfl, hq, by rw [unhide HQ]; exact unhide HG⟩
          case measure => simp [intOf]; omega
    · rw [List.drop_of_length_le (by omega)] at hg
      have hg' : r = crcF 4294967295 xs := hg
      have hn := not32 r hr
      have HM : Hid (sumM xs = r ^^^ 4294967295) := by unfold sumM; rw [hg']; exact rfl
      clear hg hg'
      go_wp2
      go_ret
      exact ⟨ret_int (by rw [unhide HM]), rfl⟩
set_option maxHeartbeats 400000 in
set_option maxRecDepth 100000 in
theorem rsum_empty (ao : Option Addr) (cap : Nat) (w : World) :
    Calls Tryd.prog 10 #[.slice ao 0 cap] w fun e w' => e = .returned (.int .u32 (sumM [] : Nat)) ∧ w' = w := by
  have hn := not32 4294967295 (by omega)
  go_enter Tryd.func10, Tryd.ntmps10
  go_wp2
  go_rounds 1
  go_ret
  exact ⟨rfl, rfl⟩
theorem rsum_any (v : Value) (xs : List Int) (w : World) (h : Bts w v xs) :
    Calls Tryd.prog 10 #[v] w fun e w' => e = .returned (.int .u32 (sumM xs : Nat)) ∧ w' = w := by
  obtain ⟨hx, hl, ⟨rfl, ao, cap, rfl, _⟩ | ⟨b, off, cap, rfl, h0, h1, h2, h3, h4⟩⟩ := h
  · exact rsum_empty ao cap w
  · exact rsum_some b off cap xs w hx (by omega) h4
set_option maxHeartbeats 400000 in
set_option maxRecDepth 100000 in
theorem crcbegun_any (w : World) (ht : Tab w) :
    Calls Tryd.prog 7 #[] w fun e w' => e = .returned (.bool true) ∧ Below w.heap.size w w' := by
  have hsum : sumM [49, 50, 51, 52, 53, 54, 55, 56, 57] = 3421780262 := by decide +kernel
  have h0 : sumM [] = 0 := by decide
  have hB := bts_alloc w [49, 50, 51, 52, 53, 54, 55, 56, 57] (9, 10) (by intro z hz; simp at hz; omega) (by decide)
  have hb := below_alloc w (.cells #[.int .u8 49, .int .u8 50, .int .u8 51, .int .u8 52, .int .u8 53, .int .u8 54, .int .u8 55, .int .u8 56, .int .u8 57] 5 (9, 10))
  have kc := fun (w : World) (C : Array Value) (n c : Nat) => Lib.run_convert_bytes_const (P := Tryd.prog) w 22 5 C n c Tryd.underlying22 Tryd.underlying5
  go_enter Tryd.func7, Tryd.ntmps7
  go_wp2_with fail
  refine (sum_any _ _ _ (ht.of hb) hB).mono ?_
  rw [hsum]
  rintro e w1 ⟨rfl, rfl⟩
  go_wp2_with fail
  refine (sum_any _ [] _ (ht.of hb) (bts_nil _)).mono ?_
  rw [h0]
  rintro e w1 ⟨rfl, rfl⟩
  go_wp2
  go_ret
  exact ⟨rfl, hb⟩
end Go.Proofs.YtjnempfjoebojaaDoor

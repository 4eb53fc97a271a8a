/-
  The walks of package num's reading: unsigned, signed, Get.
-/
import Derived.Test.YtafchnieimhlbaaRows
import Derived.Test.YtafchnieimhlbaaNumMath
import Derived.WalkKit
import Derived.WalkSpells
import Derived.WalkLawsBesides
import Derived.Handy
namespace Go.Proofs.Ytafchnieimhlbaa
open Go.RowKit
theorem ret_int {k : IntKind} {a b : Int} (h : a = b) : Ending.returned (.int k a) = .returned (.int k b) := by rw [h]
theorem ret_iii {a b c a' b' c' : Int} (h : (a', b', c') = (a, b, c)) : Ending.returned (.tuple #[.int .i64 a, .int .i64 b, .int .i64 c]) = .returned (.tuple #[.int .i64 a', .int .i64 b', .int .i64 c']) := by
  simp only [Prod.mk.injEq] at h
  obtain ⟨rfl, rfl, rfl⟩ := h
  rfl
set_option maxHeartbeats 400000 in
theorem unsigned_any (n : Int) (w : World) (h0 : -9223372036854775808 ≤ n) (h1 : n ≤ 9223372036854775807) :
    Calls Try.prog 24 #[.int .i64 n] w fun e w' => e = .returned (.int .u64 (zz n)) ∧ w' = w := by
  by_cases hn : n < 0
  · have hz : ((zz n : Nat) : Int) = -2 * n - 1 := by unfold zz; rw [if_pos hn]; omega
    rw [hz]
    go_enter Try.func24, Try.ntmps24
    go_wp2
    go_ret
    refine ⟨ret_int ?_, rfl⟩
    simp only [IntKind.wrap_u64]
    rw [xor_max _ (by omega) (by omega)]
    omega
  · have h0' : 0 ≤ n := by omega
    have hz : ((zz n : Nat) : Int) = 2 * n := by unfold zz; rw [if_neg hn]; omega
    rw [hz]
    clear hz
    go_enter Try.func24, Try.ntmps24
    go_wp2
    go_ret
    refine ⟨ret_int ?_, rfl⟩
    omega
theorem uz_odd (u : Int) (h0 : 0 ≤ u) (h1 : u ≤ 18446744073709551615) (h : (bits BinOp.and IntKind.u64 u 1 == 1) = true) : bits BinOp.xor IntKind.i64 (-1) (u / 2) = uz u.toNat := by
  rw [and1u64 u h0 h1] at h
  have h' : u % 2 = 1 := by simpa using h
  rw [xor_m1 _ (by omega) (by omega)]
  unfold uz
  rw [if_pos (by omega)]
  omega
theorem uz_even (u : Int) (h0 : 0 ≤ u) (h1 : u ≤ 18446744073709551615) (h : (bits BinOp.and IntKind.u64 u 1 == 1) = false) : u / 2 = uz u.toNat := by
  rw [and1u64 u h0 h1] at h
  have h' : u % 2 ≠ 1 := by simpa using h
  unfold uz
  rw [if_neg (by omega)]
  omega
set_option maxHeartbeats 400000 in
theorem signed_any (u : Int) (w : World) (h0 : 0 ≤ u) (h1 : u ≤ 18446744073709551615) :
    Calls Try.prog 22 #[.int .u64 u] w fun e w' => e = .returned (.int .i64 (uz u.toNat)) ∧ w' = w := by
  go_enter Try.func22, Try.ntmps22
  go_wp2
  all_goals go_ret
  · exact ⟨ret_int (uz_odd u h0 h1 (by assumption)), rfl⟩
  · exact ⟨ret_int (uz_even u h0 h1 (by assumption)), rfl⟩

theorem step_orI (u k : Nat) (c : Int) (hk : k ≤ 9) (hu : u < 128 ^ k) (hc0 : 0 ≤ c) (h9 : k = 9 → c ≤ 1) :
    bits BinOp.or IntKind.u64 (u : Int) (IntKind.u64.wrap (c % 128 * 2 ^ (7 * k))) = ((u + c.toNat % 128 * 128 ^ k : Nat) : Int) ∧ u + c.toNat % 128 * 128 ^ k < 18446744073709551616 ∧ (k < 9 → u + c.toNat % 128 * 128 ^ k < 128 ^ (k + 1)) := by
  have h := step_or u (c.toNat % 128) k hk hu (by omega) (fun e => by have := h9 e; omega)
  have e : ((c.toNat % 128 : Nat) : Int) = c % 128 := by omega
  rw [e] at h
  exact h

set_option maxHeartbeats 400000 in
theorem get_some (b off cap : Nat) (xs : List Int) (w : World) (hx : Byt xs) (hm : xs.length ≤ 9223372036854775807)
    (hc : ∀ i, i < xs.length → w.cell? ⟨b, off + i, none⟩ = some (.int .u8 (xs.getD i 0))) :
    Calls Try.prog 16 #[.slice (some ⟨b, off, none⟩) xs.length cap] w fun e w' => e = .returned (.tuple #[.int .i64 (getM xs).1, .int .i64 (getM xs).2.1, .int .i64 (getM xs).2.2]) ∧ w' = w := by
  have HC : Hid (∀ i, i < xs.length → w.cell? ⟨b, off + i, none⟩ = some (.int .u8 (xs.getD i 0))) := hc
  clear hc
  go_enter Try.func16, Try.ntmps16
  go_wp2
  go_loop [5, 10] (fun us ks => ∃ k u : Nat, k ≤ xs.length ∧ k ≤ 9 ∧ ks = .int .i64 k ∧ us = .int .u64 u ∧ u < 128 ^ k ∧ getF (xs.drop k) k u = getM xs) (fun _ k => xs.length - (intOf k).toNat)
  case atStart => exact ⟨0, 0, by omega, by omega, rfl, rfl, by omega, rfl⟩
  case round =>
    obtain ⟨k, u, hk, hk9, rfl, rfl, hu, hg⟩ := hrel
    by_cases hlt : k < xs.length
    · have hck := HC.out k hlt
      have hcr := byt_getD hx k hlt
      rw [drop_getD xs k hlt] at hg
      generalize xs.getD k 0 = c at hck hcr hg
      obtain ⟨hc0, hc1⟩ := hcr
      have hand := and127u8 c hc0 hc1
      unfold getF at hg
      by_cases h9 : k = 9 ∧ 1 < c
      · rw [if_pos h9] at hg
        obtain ⟨h9a, h9b⟩ := h9
        have hd : ((k : Int) == 9) = true := by simp [h9a]
        have HG := hide hg
        have H9 := hide h9a
        clear hg h9a
        go_wp2
        go_ret3
        exact ⟨ret_iii (unhide HG).symm, rfl⟩
      · rw [if_neg h9] at hg
        have hst := step_orI u k c hk9 hu hc0 (fun e => by omega)
        obtain ⟨hor, hlt64, hnx⟩ := hst
        have H9 := hide h9
        have HN := hide hnx
        clear h9 hnx
        by_cases h128 : 128 ≤ c
        · rw [if_pos h128] at hg
          have h9' : k < 9 := by have := unhide H9; omega
          have hd : ((k : Int) == 9) = false := by simp; omega
          generalize u + c.toNat % 128 * 128 ^ k = u' at *
          have HG := hide hg
          clear hg
          go_wp2
          go_round
          case rel => exact ⟨k + 1, u', by omega, by omega, by go_num, rfl, unhide HN h9', unhide HG⟩
          case measure => simp [intOf]; omega
        · rw [if_neg h128] at hg
          have hmod : c % 128 = c := by omega
          have hmodn : c.toNat % 128 = c.toNat := by omega
          rw [hmod] at hand hor
          rw [hmodn] at hor hlt64
          clear HN hmod hmodn
          by_cases hz : c = 0 ∧ 0 < k
          · rw [if_pos hz] at hg
            obtain ⟨hz1, hz2⟩ := hz
            subst hz1
            have HG := hide hg
            clear hg
            by_cases h9e : k = 9
            · have hd : ((k : Int) == 9) = true := by simp [h9e]
              have H9e := hide h9e
              clear h9e
              go_wp2
              go_ret3
              exact ⟨ret_iii (unhide HG).symm, rfl⟩
            · have hd : ((k : Int) == 9) = false := by simp; omega
              have H9e := hide h9e
              clear h9e
              go_wp2
              go_ret3
              exact ⟨ret_iii (unhide HG).symm, rfl⟩
          · rw [if_neg hz] at hg
            have HG := hide hg
            clear hg
            generalize hu' : u + c.toNat * 128 ^ k = u' at *
            have HU := hide hu'
            have HZ := hide hz
            clear hu' hz
            by_cases hc00 : c = 0
            · have hk0 : k = 0 := by have := unhide HZ; omega
              have hd : ((k : Int) == 9) = false := by rw [hk0]; rfl
              have hk0' : ¬ (0 < (k : Int)) := by omega
              have hcb : (c == 0) = true := by simp [hc00]
              have H1 := hide hc00
              have H2 := hide hk0
              clear hc00 hk0 HZ
              go_wp2_with (go_at_call 22; refine (signed_any _ _ (by omega) (by omega)).mono ?_; rintro e w' ⟨rfl, rfl⟩)
              go_ret3
              exact ⟨ret_iii (by rw [← unhide HG]; simp), rfl⟩
            · have hcb : (c == 0) = false := by simp [hc00]
              have H1 := hide hc00
              clear hc00 HZ
              by_cases h9e : k = 9
              · have hd : ((k : Int) == 9) = true := by simp [h9e]
                have hc1' : ¬ (1 < c) := by have := unhide H9; omega
                have H9e := hide h9e
                clear h9e
                go_wp2_with (go_at_call 22; refine (signed_any _ _ (by omega) (by omega)).mono ?_; rintro e w' ⟨rfl, rfl⟩)
                go_ret3
                exact ⟨ret_iii (by rw [← unhide HG]; simp), rfl⟩
              · have hd : ((k : Int) == 9) = false := by simp; omega
                have H9e := hide h9e
                clear h9e
                go_wp2_with (go_at_call 22; refine (signed_any _ _ (by omega) (by omega)).mono ?_; rintro e w' ⟨rfl, rfl⟩)
                go_ret3
                exact ⟨ret_iii (by rw [← unhide HG]; simp), rfl⟩
    · have hg' : getM xs = (0, 0, 2) := by
        rw [← hg, List.drop_of_length_le (by omega)]; rfl
      have HG := hide hg'
      clear hg hg'
      go_wp2
      go_ret3
      exact ⟨ret_iii (unhide HG), rfl⟩
end Go.Proofs.Ytafchnieimhlbaa

/-
  The walks of the reference's Get and GetText: they read as num's do.
-/
import Derived.Test.YtafchnieimhlbaaNumText
namespace Go.Proofs.Ytafchnieimhlbaa
open Go.RowKit
theorem ref_step (u k : Nat) (c : Int) (hk : k ≤ 9) (hu : u < 128 ^ k) (hc0 : 0 ≤ c) (h9 : k = 9 → c ≤ 1) :
    ∃ q : Nat, IntKind.u64.wrap (c % 128 * ((128 ^ k : Nat) : Int)) = (q : Int) ∧ u + q < 18446744073709551616 ∧ u + q = u + c.toNat % 128 * 128 ^ k ∧ (k < 9 → u + q < 128 ^ (k + 1)) := by
  have h := step_or u (c.toNat % 128) k hk hu (by omega) (fun e => by have := h9 e; omega)
  refine ⟨c.toNat % 128 * 128 ^ k, ?_, h.2.1, rfl, h.2.2⟩
  have e : (c % 128 * ((128 ^ k : Nat) : Int)) = ((c.toNat % 128 * 128 ^ k : Nat) : Int) := by
    rw [Int.natCast_mul]
    congr 1
    omega
  have h2 := h.2.1
  rw [e, IntKind.wrap_u64]
  generalize c.toNat % 128 * 128 ^ k = z at *
  omega
theorem ref_pow (k : Nat) (hk : k < 9) : IntKind.u64.wrap (((128 ^ k : Nat) : Int) * 128) = ((128 ^ (k + 1) : Nat) : Int) := by
  have h := pow128_le (k + 1) (by omega)
  rw [IntKind.wrap_u64, Nat.pow_succ]
  rw [Nat.pow_succ] at h
  omega
set_option maxHeartbeats 1000000 in
set_option maxRecDepth 100000 in
theorem rget_some (b off cap : Nat) (xs : List Int) (w : World) (hx : Byt xs) (hm : xs.length ≤ 9223372036854775807)
    (hc : ∀ i, i < xs.length → w.cell? ⟨b, off + i, none⟩ = some (.int .u8 (xs.getD i 0))) :
    Calls Try.prog 18 #[.slice (some ⟨b, off, none⟩) xs.length cap] w fun e w' => e = .returned (.tuple #[.int .i64 (getM xs).1, .int .i64 (getM xs).2.1, .int .i64 (getM xs).2.2]) ∧ w' = w := by
  have HC : Hid (∀ i, i < xs.length → w.cell? ⟨b, off + i, none⟩ = some (.int .u8 (xs.getD i 0))) := hc
  clear hc
  go_enter Try.func18, Try.ntmps18
  go_wp2
  go_loop [5, 6, 7] (fun us ps ks => ∃ k u : Nat, k ≤ xs.length ∧ k ≤ 9 ∧ ks = .int .i64 k ∧ us = .int .u64 u ∧ ps = .int .u64 ((128 ^ k : Nat) : Int) ∧ u < 128 ^ k ∧ getF (xs.drop k) k u = getM xs) (fun _ _ k => xs.length - (intOf k).toNat)
  case atStart => exact ⟨0, 0, by omega, by omega, rfl, rfl, rfl, by omega, rfl⟩
  case round =>
    obtain ⟨k, u, hk, hk9, rfl, rfl, rfl, hu, hg⟩ := hrel
    by_cases hlt : k < xs.length
    · have hck := HC.out k hlt
      have hcr := byt_getD hx k hlt
      rw [drop_getD xs k hlt] at hg
      generalize xs.getD k 0 = c at hck hcr hg
      obtain ⟨hc0, hc1⟩ := hcr
      unfold getF at hg
      by_cases h9 : k = 9 ∧ 1 < c
      · rw [if_pos h9] at hg
        obtain ⟨h9a, h9b⟩ := h9
        have hd : ((k : Int) == 9) = true := by simp [h9a]
        have HG := hide hg
        have H9 := hide h9a
        clear hg h9a hu
        generalize (128 ^ k : Nat) = p
        go_wp2
        go_ret3
        exact ⟨ret_iii (unhide HG).symm, rfl⟩
      · rw [if_neg h9] at hg
        obtain ⟨q, hq, hq64, hqe, hnx⟩ := ref_step u k c hk9 hu hc0 (fun e => by omega)
        rw [← hqe] at hg
        have HQ := hide hqe
        have HN := hide hnx
        have H9 := hide h9
        clear hqe hnx h9
        by_cases h128 : 128 ≤ c
        · rw [if_pos h128] at hg
          have h9' : k < 9 := by have := unhide H9; omega
          have hd : ((k : Int) == 9) = false := by simp; omega
          have hcz : (c == 0) = false := by simp; omega
          have hpw := ref_pow k h9'
          have HG := hide hg
          clear hg hu
          generalize hp : (128 ^ k : Nat) = p at *
          generalize hp' : (128 ^ (k + 1) : Nat) = p' at *
          have HP := hide hp
          have HP' := hide hp'
          clear hp hp'
          by_cases hk0 : 0 < k
          · go_wp2
            go_round
            case rel => exact ⟨k + 1, u + q, by omega, by omega, by go_num, by go_num, by rw [unhide HP'], by rw [unhide HP']; exact unhide HN h9', unhide HG⟩
            case measure => simp [intOf]; omega
          · go_wp2
            go_round
            case rel => exact ⟨k + 1, u + q, by omega, by omega, by go_num, by go_num, by rw [unhide HP'], by rw [unhide HP']; exact unhide HN h9', unhide HG⟩
            case measure => simp [intOf]; omega
        · rw [if_neg h128] at hg
          by_cases hz : c = 0 ∧ 0 < k
          · rw [if_pos hz] at hg
            obtain ⟨hz1, hz2⟩ := hz
            subst hz1
            have HG := hide hg
            clear hg hu
            generalize (128 ^ k : Nat) = p at *
            by_cases h9e : k = 9
            · have hd : ((k : Int) == 9) = true := by simp [h9e]
              have H9e := hide h9e
              clear h9e
              go_wp2
              go_ret3
              exact ⟨ret_iii (unhide HG).symm, rfl⟩
            · have hd : ((k : Int) == 9) = false := by simp; omega
              have H9e := hide h9e
              clear h9e
              go_wp2
              go_ret3
              exact ⟨ret_iii (unhide HG).symm, rfl⟩
          · rw [if_neg hz] at hg
            have hmodn : c.toNat % 128 = c.toNat := by omega
            have hqe := unhide HQ
            rw [hmodn] at hqe
            rw [← hqe] at hg
            obtain ⟨x, hxd⟩ : ∃ x, x = u + q := ⟨_, rfl⟩
            rw [← hxd] at hg
            have hxi : (u : Int) + (q : Int) = (x : Int) := by omega
            have hx64 : x < 18446744073709551616 := by omega
            have HG := hide hg
            have HZ := hide hz
            have HX := hide hxd
            clear hg hu hqe hmodn hz HQ HN hxd
            generalize (128 ^ k : Nat) = p at *
            generalize hpw : IntKind.u64.wrap ((p : Int) * 128) = pw at *
            clear hpw
            by_cases hodd : x % 2 = 1
            · have hu1 : uz x = -((x : Int) / 2) - 1 := by unfold uz; rw [if_pos hodd]; omega
              rw [hu1] at HG
              have ho : ((x : Int) % 2 == 1) = true := by simp; omega
              have HO := hide hodd
              clear hodd hu1
              by_cases hc00 : c = 0
              · have hk0 : k = 0 := by have := unhide HZ; omega
                have hd : ((k : Int) == 9) = false := by rw [hk0]; rfl
                have hk0' : ¬ (0 < (k : Int)) := by omega
                have H1 := hide hk0
                have H2 := hide hc00
                clear hk0 HZ hc00
                go_wp2
                go_ret3
                exact ⟨ret_iii (by rw [← unhide HG]; simp), rfl⟩
              · have hcb : (c == 0) = false := by simp [hc00]
                have H1 := hide hc00
                clear hc00 HZ
                by_cases h9e : k = 9
                · have hd : ((k : Int) == 9) = true := by simp [h9e]
                  have hk0' : 0 < (k : Int) := by omega
                  have hc1' : ¬ (1 < c) := by have := unhide H9; omega
                  have H9e := hide h9e
                  clear h9e
                  go_wp2
                  go_ret3
                  exact ⟨ret_iii (by rw [← unhide HG]; simp), rfl⟩
                · have hd : ((k : Int) == 9) = false := by simp; omega
                  have H9e := hide h9e
                  clear h9e
                  by_cases hk0 : 0 < k
                  · go_wp2
                    go_ret3
                    exact ⟨ret_iii (by rw [← unhide HG]; simp), rfl⟩
                  · go_wp2
                    go_ret3
                    exact ⟨ret_iii (by rw [← unhide HG]; simp), rfl⟩
            · have hu1 : uz x = (x : Int) / 2 := by unfold uz; rw [if_neg hodd]; omega
              rw [hu1] at HG
              have ho : ((x : Int) % 2 == 1) = false := by simp; omega
              have HO := hide hodd
              clear hodd hu1
              by_cases hc00 : c = 0
              · have hk0 : k = 0 := by have := unhide HZ; omega
                have hd : ((k : Int) == 9) = false := by rw [hk0]; rfl
                have hk0' : ¬ (0 < (k : Int)) := by omega
                have H1 := hide hk0
                have H2 := hide hc00
                clear hk0 HZ hc00
                go_wp2
                go_ret3
                exact ⟨ret_iii (by rw [← unhide HG]; simp), rfl⟩
              · have hcb : (c == 0) = false := by simp [hc00]
                have H1 := hide hc00
                clear hc00 HZ
                by_cases h9e : k = 9
                · have hd : ((k : Int) == 9) = true := by simp [h9e]
                  have hk0' : 0 < (k : Int) := by omega
                  have hc1' : ¬ (1 < c) := by have := unhide H9; omega
                  have H9e := hide h9e
                  clear h9e
                  go_wp2
                  go_ret3
                  exact ⟨ret_iii (by rw [← unhide HG]; simp), rfl⟩
                · have hd : ((k : Int) == 9) = false := by simp; omega
                  have H9e := hide h9e
                  clear h9e
                  by_cases hk0 : 0 < k
                  · go_wp2
                    go_ret3
                    exact ⟨ret_iii (by rw [← unhide HG]; simp), rfl⟩
                  · go_wp2
                    go_ret3
                    exact ⟨ret_iii (by rw [← unhide HG]; simp), rfl⟩
    · have hg' : getM xs = (0, 0, 2) := by
        rw [← hg, List.drop_of_length_le (by omega)]; rfl
      have HG := hide hg'
      clear hg hg'
      go_wp2
      go_ret3
      exact ⟨ret_iii (unhide HG), rfl⟩
end Go.Proofs.Ytafchnieimhlbaa

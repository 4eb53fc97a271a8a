/-
  NumSize's walk.
-/
import Derived.Test.YtafchnieimhlbaaArg
namespace Go.Proofs.Ytafchnieimhlbaa
open Go.RowKit
theorem digs_get (n : Int) (h0 : -9223372036854775808 ≤ n) (h1 : n ≤ 9223372036854775807) : getM (digs (zz n)) = (n, ((digs (zz n)).length : Int), 0) := by
  have := getM_digs (zz n) [] (zz_lt n h0 h1)
  rw [List.append_nil, uz_zz] at this
  exact this
theorem zz_neg_is (n : Int) (h0 : -9223372036854775808 ≤ n) (h : n < 0) : bits BinOp.xor IntKind.u64 IntKind.u64.max (IntKind.u64.wrap (IntKind.u64.wrap n * 2)) = (zz n : Int) := by
  have hz : ((zz n : Nat) : Int) = -2 * n - 1 := by unfold zz; rw [if_pos h]; omega
  rw [hz]
  simp only [IntKind.wrap_u64]
  rw [xor_max _ (by omega) (by omega)]
  omega
theorem zz_pos_is (n : Int) (h1 : n ≤ 9223372036854775807) (h : 0 ≤ n) : IntKind.u64.wrap (IntKind.u64.wrap n * 2) = (zz n : Int) := by
  have hz : ((zz n : Nat) : Int) = 2 * n := by unfold zz; rw [if_neg (by omega)]; omega
  rw [hz]
  simp only [IntKind.wrap_u64]
  omega
set_option maxHeartbeats 1000000 in
set_option maxRecDepth 100000 in
theorem numSize_walk (n : Int) (w : World) (h0 : -9223372036854775808 ≤ n) (h1 : n ≤ 9223372036854775807) :
    Calls Try.prog 8 #[.int .i64 n] w fun e w' => e = .returned (.bool true) ∧ Below w.heap.size w w' := by
  have hz := zz_lt n h0 h1
  have hdl := digs_len (zz n)
  have hgd := digs_get n h0 h1
  have HG := hide hgd
  clear hgd
  go_enter Try.func8, Try.ntmps8
  go_wp2_with (go_at_call 9; refine (begun_any _).mono ?_; rintro e w1 ⟨rfl, hbel1⟩)
  all_goals
    go_loop [4, 5] (fun us ks => ∃ (u f k : Nat), us = .int .u64 u ∧ ks = .int .i64 k ∧ 1 ≤ k ∧ k + f = 10 ∧ u < 2 * 128 ^ f ∧ k + (digsF f u).length = (digs (zz n)).length + 1) (fun us _ => (intOf us).toNat)
    case atStart =>
      first
      | exact ⟨zz n, 9, 1, by rw [zz_neg_is n h0 (by assumption)], rfl, by omega, by omega, by omega, by rw [Nat.add_comm]; rfl⟩
      | exact ⟨zz n, 9, 1, by rw [zz_pos_is n h1 (by assumption)], rfl, by omega, by omega, by omega, by rw [Nat.add_comm]; rfl⟩
    case round =>
      obtain ⟨u, f, k, rfl, rfl, hk1, hkf, hu, hk⟩ := hrel
      have hu64 : u < 18446744073709551616 := by
        have h9 : f ≤ 9 := by omega
        have := Nat.pow_le_pow_right (n := 128) (by omega) h9
        omega
      by_cases hlt : 128 ≤ u
      · obtain ⟨f', rfl⟩ : ∃ f', f = f' + 1 := by
          cases f with
          | zero => simp at hu; omega
          | succ f' => exact ⟨f', rfl⟩
        have hu' : u / 128 < 2 * 128 ^ f' := by rw [Nat.pow_succ] at hu; omega
        have hk' : k + 1 + (digsF f' (u / 128)).length = (digs (zz n)).length + 1 := by
          unfold digsF at hk
          rw [if_neg (by omega)] at hk
          simp only [List.length_cons] at hk
          omega
        have HK := hide hk'
        clear hk hk' hu
        go_wp2
        go_round
        case rel => exact ⟨u / 128, f', k + 1, by go_num, by go_num, by omega, by omega, hu', unhide HK⟩
        case measure => simp [intOf]; omega
      · have hk' : (digs (zz n)).length = k := by
          cases f with
          | zero => simp [digsF] at hk; omega
          | succ f' =>
            unfold digsF at hk
            rw [if_pos (by omega)] at hk
            simp at hk
            omega
        subst hk'
        clear hk hu
        go_wp2_with fail
        refine (put_nil n _ h0 h1).mono ?_
        rintro e w2 ⟨b, off, cap, rfl, _, _, hB, hbel2⟩
        go_wp2_with fail
        refine (get_any _ _ _ hB).mono ?_
        rw [unhide HG]
        rintro e w3 ⟨rfl, rfl⟩
        go_wp2
        go_ret
        exact ⟨rfl, hbel1.trans (hbel2.mono hbel1.size)⟩
theorem numSize_shell (a0 : Int) (w0 : (Lit.int .i64 a0).wf = true) (w : World) :
    Calls Try.prog 8 #[.int .i64 a0] w fun e w' => e = .returned (.bool true) ∧ Below w.heap.size w w' := by
  have hb := bounds_i64 w0
  exact numSize_walk a0 w (by omega) (by omega)
end Go.Proofs.Ytafchnieimhlbaa

/-
  The walk of the reference's GetText: it reads as num's does.
-/
import Derived.Test.YtafchnieimhlbaaRefGet
namespace Go.Proofs.Ytafchnieimhlbaa
open Go.RowKit
set_option maxHeartbeats 400000 in
theorem rget_empty (ao : Option Addr) (cap : Nat) (w : World) :
    Calls Try.prog 18 #[.slice ao 0 cap] w fun e w' => e = .returned (.tuple #[.int .i64 0, .int .i64 0, .int .i64 2]) ∧ w' = w := by
  go_enter Try.func18, Try.ntmps18
  go_wp2
  go_rounds 1
  go_ret3
  exact ⟨rfl, rfl⟩
theorem rget_any (v : Value) (xs : List Int) (w : World) (h : Bts w v xs) :
    Calls Try.prog 18 #[v] w fun e w' => e = .returned (.tuple #[.int .i64 (getM xs).1, .int .i64 (getM xs).2.1, .int .i64 (getM xs).2.2]) ∧ w' = w := by
  obtain ⟨hx, hl, ⟨rfl, ao, cap, rfl, _⟩ | ⟨b, off, cap, rfl, h0, h1, h2, h3, h4⟩⟩ := h
  · exact rget_empty ao cap w
  · exact rget_some b off cap xs w hx (by omega) h4
set_option maxHeartbeats 400000 in
set_option maxRecDepth 100000 in
theorem rgetText_any (v : Value) (xs : List Int) (w : World) (h : Bts w v xs) :
    Calls Try.prog 19 #[v] w fun e w' => e = .returned (.tuple #[.string (strOfNums (getTextM xs).1), .int .i64 (getTextM xs).2.1, .int .i64 (getTextM xs).2.2]) ∧ w' = w := by
  obtain ⟨n, k, er, hg⟩ : ∃ n k er, getM xs = (n, k, er) := ⟨_, _, _, rfl⟩
  have hgt : getTextM xs = if er = 0 then if n < 0 ∨ 65536 < n then ([], 0, 1) else if (xs.length : Int) - k < n then ([], 0, 2) else ((xs.drop k.toNat).take n.toNat, k + n, 0) else ([], 0, er) := by
    unfold getTextM; rw [hg]
  have hc := rget_any v xs w h
  rw [hg] at hc
  have HC := hide hc
  clear hc
  by_cases he : er = 0
  · subst he
    have hk := getF_ok xs 0 0 n k hg
    obtain ⟨kn, rfl⟩ := Int.eq_ofNat_of_zero_le (show 0 ≤ k by omega)
    rw [if_pos rfl] at hgt
    obtain ⟨hx, hl, ⟨rfl, ao, cap, rfl, _⟩ | ⟨b, off, cap, rfl, h0, h1, h2, h3, h4⟩⟩ := h
    · simp at hk; omega
    by_cases hn : n < 0 ∨ 65536 < n
    · rw [if_pos hn] at hgt
      rw [hgt]
      clear hgt hg
      by_cases hn0 : n < 0
      · go_enter Try.func19, Try.ntmps19
        go_wp2_with (go_at_call 18; refine (unhide HC).mono ?_; rintro e w' ⟨rfl, rfl⟩)
        go_ret3
        exact ⟨rfl, rfl⟩
      · have hn1 : 65536 < n := by omega
        have hn0' : decide (n < 0) = false := by simpa using hn0
        go_enter Try.func19, Try.ntmps19
        go_wp2_with (go_at_call 18; refine (unhide HC).mono ?_; rintro e w' ⟨rfl, rfl⟩)
        go_ret3
        exact ⟨rfl, rfl⟩
    · rw [if_neg hn] at hgt
      have hn0 : 0 ≤ n := by omega
      have hn1 : n ≤ 65536 := by omega
      obtain ⟨m, rfl⟩ := Int.eq_ofNat_of_zero_le hn0
      by_cases hs : (xs.length : Int) - kn < m
      · rw [if_pos hs] at hgt
        rw [hgt]
        clear hgt hg
        go_enter Try.func19, Try.ntmps19
        go_wp2_with (go_at_call 18; refine (unhide HC).mono ?_; rintro e w' ⟨rfl, rfl⟩)
        all_goals (go_ret3; exact ⟨rfl, rfl⟩)
      · rw [if_neg hs] at hgt
        rw [hgt]
        clear hgt hg
        by_cases hck : cap = kn
        · obtain rfl : m = 0 := by omega
          have hcv := fun (w : World) (b off cap : Nat) => run_convert_bytes_arg (P := Try.prog) w 22 5 Try.underlying22 Try.underlying5 b off 0 cap [] rfl (fun i hi => by omega) 9 Try.underlying9
          subst hck
          go_enter Try.func19, Try.ntmps19
          go_wp2_with (go_at_call 18; refine (unhide HC).mono ?_; rintro e w' ⟨rfl, rfl⟩)
          go_ret3
          exact ⟨by simp, rfl⟩
        · have hcv := fun (cap : Nat) => run_convert_bytes_arg (P := Try.prog) w 22 5 Try.underlying22 Try.underlying5 b (off + kn) m cap ((xs.drop kn).take m) (by simp; omega) (by
            intro i hi
            rw [Nat.add_assoc, h4 (kn + i) (by omega)]
            congr 2
            simp [List.getD, hi]) 9 Try.underlying9
          have H4 := hide h4
          clear h4
          go_enter Try.func19, Try.ntmps19
          go_wp2_with (go_at_call 18; refine (unhide HC).mono ?_; rintro e w' ⟨rfl, rfl⟩)
          go_ret3
          exact ⟨by simp, rfl⟩
  · rw [if_neg he] at hgt
    rw [hgt]
    have her : er = 1 ∨ er = 2 := by
      have := getF_err xs 0 0
      rw [show getF xs 0 0 = (n, k, er) from hg] at this
      simp only [Prod.mk.injEq] at this
      omega
    clear hgt hg
    have heb : (er != 0) = true := by simp [he]
    go_enter Try.func19, Try.ntmps19
    go_wp2_with (go_at_call 18; refine (unhide HC).mono ?_; rintro e w' ⟨rfl, rfl⟩)
    go_ret3
    exact ⟨rfl, rfl⟩
end Go.Proofs.Ytafchnieimhlbaa

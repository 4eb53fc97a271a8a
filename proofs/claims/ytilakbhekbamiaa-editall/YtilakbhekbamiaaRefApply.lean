/-
  The reference's Apply, of edits that may be.
-/
import Derived.Test.YtilakbhekbamiaaRefMay
namespace Go.Proofs.Ytilakbhekbamiaa
open Go.RowKit
set_option linter.unusedSimpArgs false
set_option linter.unusedVariables false
set_option maxHeartbeats 8000000 in
set_option maxRecDepth 100000 in
theorem rApply_any (v : Value) (L : List Ed) (s : ByteArray) (w : World) (h : Eds w v L) (hl : L.length ≤ 1000) (hs : s.size ≤ 100000) (hB : ∀ e ∈ L, e.s.size ≤ 100000) (hm : mayB L s.size = true) :
    Calls Try.prog 14 #[.string s, v] w fun e w' => e = .returned (.string (appS s L)) ∧ Below w.heap.size w w' := by
  obtain ⟨a, c, rfl, h1, h2, h3⟩ := h
  unfold maxLen at h2
  obtain ⟨n, hn⟩ : ∃ n, L.length = n := ⟨_, rfl⟩
  have hbig := hide (fun k (hk : k ≤ L.length) => outK_size hB hk (mayK_le hk hm))
  have hap : Hid (appS s L = outK s L n ++ s.extract (atK L n) s.size) := hide (by rw [appS, hn])
  unfold mayB at hm
  rw [hn] at hl h1 h3 hbig hm ⊢
  replace h3 := hide h3
  replace hm := hide hm
  replace hB := hide hB
  go_enter Try.func14, Try.ntmps14
  go_wp2
  go_loopg [5, 6, 7] n (fun gf s5 s6 s7 wx => ∃ i : Nat, s5 = .string (outK s L i) ∧ s6 = .int .i64 (atK L i) ∧ s7 = .int .i64 i ∧ i + gf = n ∧ Below w.heap.size w wx)
  case atStart => exact ⟨0, rfl, rfl, rfl, by omega, Below.refl _ _⟩
  case round =>
    obtain ⟨i, rfl, rfl, rfl, hi, hbw⟩ := hrel
    have hat := atK_le (mayK_le (show i ≤ n by omega) (unhide hm))
    have hsz := unhide hbig i (by omega)
    have hsz2 : (outK s L i).size ≤ 1000 * 200000 := Nat.le_trans hsz (Nat.mul_le_mul (by omega) (by omega))
    clear hsz
    by_cases hlt : i < n
    · have hlz : (i : Int) < n := by omega
      obtain ⟨g', rfl⟩ : ∃ g', gk = g' + 1 := ⟨gk - 1, by omega⟩
      obtain ⟨g, off, rfl, hg, hc⟩ := unhide h3 (by omega)
      have hnx := atK_next (mayK_le (show i + 1 ≤ n by omega) (unhide hm))
      obtain ⟨k1, k2, k3, k4⟩ := okE_iff.1 (mayK_at hlt (unhide hm)).1
      have ho : Hid (outK s L (i + 1) = outK s L i ++ (s.extract (atK L i) (L.getD i ed0).p.toNat ++ (L.getD i ed0).s)) := hide rfl
      have ha : Hid (((atK L (i + 1) : Nat) : Int) = (L.getD i ed0).p + (L.getD i ed0).n) := hide (by rw [atK]; omega)
      have hBi : (L.getD i ed0).s.size ≤ 100000 := unhide hB _ (by
        have : i < L.length := by omega
        simp [List.getD, this])
      have hcq := hide (fun (W : World) (hW : Below w.heap.size w W) => (hc i hlt).below hg hW)
      clear hc
      generalize L.getD i ed0 = E at *
      obtain ⟨ep, en, es⟩ := E
      dsimp only at *
      obtain ⟨p, rfl⟩ := Int.eq_ofNat_of_zero_le k1
      obtain ⟨m, rfl⟩ := Int.eq_ofNat_of_zero_le k2
      obtain ⟨x0, x1, x2⟩ := unhide hcq wr hbw
      dsimp only at x0 x1 x2
      replace ho : Hid (outK s L (i + 1) = outK s L i ++ (s.extract (atK L i) p ++ es)) := ho
      have hes : (s.extract (atK L i) p).size ≤ 100000 := by rw [ByteArray.size_extract]; omega
      have hes2 : (s.extract (atK L i) p ++ es).size ≤ 200000 := by rw [ByteArray.size_append]; omega
      have hadd : IntKind.i64.wrap ((p : Int) + m) = (p : Int) + m := wrapI _ (by omega) (by omega)
      clear hap hbig h3 hm
      generalize outK s L i = O at *
      generalize atK L i = A at *
      go_wp2
      go_quiet (fail)
      replace hbw : Below w.heap.size w (wr.drewN nq) := below_drewN hbw _
      clear x0 x1 x2
      generalize wr.drewN nq = W5 at *
      obtain ⟨x0, x1, x2⟩ := unhide hcq W5 hbw
      dsimp only at x0 x1 x2
      go_wp2
      go_quiet (fail)
      go_wp2
      go_roundg g'
      case measure => omega
      case rel => exact ⟨i + 1, by rw [unhide ho], by rw [unhide ha], by go_num, by omega, below_drewN hbw _⟩
    · have hlz : ¬ (i : Int) < n := by omega
      obtain rfl : i = n := by omega
      have hes : (s.extract (atK L i) s.size).size ≤ 100000 := by rw [ByteArray.size_extract]; omega
      generalize outK s L i = O at *
      generalize atK L i = A at *
      clear hm hbig h3 hB
      go_wp2
      go_ret
      exact ⟨by rw [unhide hap]; rfl, hbw⟩
end Go.Proofs.Ytilakbhekbamiaa

/-
  The reference's MayEdits and Apply.
-/
import Derived.Test.YtpjpghigilbfaaaOwnEd
import Derived.Test.YtpjpghigilbfaaaWrap
import Derived.Deep.LoopGhost
import Derived.BigQuiet
import Derived.WalkSmall
namespace Go.Proofs.Ytpjpghigilbfaaa
open Go.RowKit
set_option linter.unusedSimpArgs false
set_option linter.unusedVariables false
set_option maxHeartbeats 8000000 in
set_option maxRecDepth 100000 in
theorem rMay_any (v : Value) (L : List Ed) (z : Int) (w : World) (h : Eds w v L) (hl : L.length ≤ 1000000) (hz : 0 ≤ z ∧ z ≤ 1000000000)
    (hr : ∀ e ∈ L, (-9223372036854775808 ≤ e.p ∧ e.p ≤ 9223372036854775807) ∧ (-9223372036854775808 ≤ e.n ∧ e.n ≤ 9223372036854775807)) :
    Calls Try.prog 16 #[v, .int .i64 z] w fun e w' => e = .returned (.bool (mayB L z)) ∧ Below w.heap.size w w' := by
  obtain ⟨a, c, rfl, h1, h2, h3⟩ := h
  unfold maxLen at h2
  obtain ⟨n, hn⟩ : ∃ n, L.length = n := ⟨_, rfl⟩
  have hmay : Hid (mayB L z = mayK L z n) := hide (by rw [mayB, hn])
  rw [hn] at hl h1 h3 ⊢
  replace h3 := hide h3
  replace hr := hide hr
  go_enter Try.func16, Try.ntmps16
  go_wp2
  go_loopg [5] n (fun gf s5 wx => ∃ i : Nat, s5 = .int .i64 i ∧ i + gf = n ∧ mayK L z i = true ∧ Below w.heap.size w wx)
  case atStart => exact ⟨0, rfl, by omega, rfl, Below.refl _ _⟩
  case round =>
    obtain ⟨i, rfl, hi, hm, hbw⟩ := hrel
    by_cases hlt : i < n
    · have hlz : (i : Int) < n := by omega
      obtain ⟨g', rfl⟩ : ∃ g', gk = g' + 1 := ⟨gk - 1, by omega⟩
      obtain ⟨g, off, rfl, hg, hc⟩ := unhide h3 (by omega)
      have hmem : L.getD i ed0 ∈ L := by
        have : i < L.length := by omega
        simp [List.getD, this]
      have hri := unhide hr _ hmem
      have hstep : Hid (mayK L z (i + 1) = (mayK L z i && okE z (L.getD i ed0) && (i == 0 || gapE (L.getD (i - 1) ed0) (L.getD i ed0)))) := hide rfl
      have hni : Hid (∀ (_ : mayK L z (i + 1) = false), mayK L z n = false) := hide (fun h => mayK_not (by omega) h)
      have hprev : Hid (0 < i → okE z (L.getD (i - 1) ed0) = true) := hide (fun h => (mayK_at (show i - 1 < i by omega) hm).1)
      obtain ⟨x0, x1, x2⟩ := (hc i hlt).below hg hbw
      have hcp := hide (fun (W : World) (hW : Below w.heap.size w W) (h : 0 < i) => (hc (i - 1) (by omega)).below hg hW)
      have hcq := hide (fun (W : World) (hW : Below w.heap.size w W) => (hc i hlt).below hg hW)
      clear hc
      generalize hE : L.getD i ed0 = E at *
      obtain ⟨ep, en, es⟩ := E
      dsimp only at *
      obtain ⟨⟨r1, r2⟩, r3, r4⟩ := hri
      clear hmem hE
      by_cases q1 : ep < 0
      · have hd1 : decide (ep < 0) = true := decide_eq_true q1
        have hf := hide (unhide hni (by
          have hk : okE z ⟨ep, en, es⟩ = false := by
            cases h : okE z ⟨ep, en, es⟩ with
            | false => rfl
            | true => have := okE_iff.1 h; dsimp only at this; omega
          rw [unhide hstep, hk]; simp))
        clear hstep hni hprev hcp hcq
        go_wp2
        go_quiet (fail)
        go_wp2
        go_ret
        exact ⟨ret_bool (by rw [unhide hmay, unhide hf]), below_drewN hbw _⟩
      by_cases q2 : en < 0
      · have hd1 : decide (ep < 0) = false := decide_eq_false q1
        have hd2 : decide (en < 0) = true := decide_eq_true q2
        have hf := hide (unhide hni (by
          have hk : okE z ⟨ep, en, es⟩ = false := by
            cases h : okE z ⟨ep, en, es⟩ with
            | false => rfl
            | true => have := okE_iff.1 h; dsimp only at this; omega
          rw [unhide hstep, hk]; simp))
        clear hstep hni hprev hcp hcq
        go_wp2
        go_quiet (fail)
        go_wp2
        go_ret
        exact ⟨ret_bool (by rw [unhide hmay, unhide hf]), below_drewN hbw _⟩
      by_cases q3 : z < ep
      · have hd1 : decide (ep < 0) = false := decide_eq_false q1
        have hd2 : decide (en < 0) = false := decide_eq_false q2
        have hd3 : decide (z < ep) = true := decide_eq_true q3
        have hf := hide (unhide hni (by
          have hk : okE z ⟨ep, en, es⟩ = false := by
            cases h : okE z ⟨ep, en, es⟩ with
            | false => rfl
            | true => have := okE_iff.1 h; dsimp only at this; omega
          rw [unhide hstep, hk]; simp))
        clear hstep hni hprev hcp hcq
        go_wp2
        go_quiet (fail)
        go_wp2
        go_ret
        exact ⟨ret_bool (by rw [unhide hmay, unhide hf]), below_drewN hbw _⟩
      have hsub : IntKind.i64.wrap (z - ep) = z - ep := wrapI _ (by omega) (by omega)
      by_cases q4 : z - ep < en
      · have hd1 : decide (ep < 0) = false := decide_eq_false q1
        have hd2 : decide (en < 0) = false := decide_eq_false q2
        have hd3 : decide (z < ep) = false := decide_eq_false q3
        have hd4 : decide (z - ep < en) = true := decide_eq_true q4
        have hf := hide (unhide hni (by
          have hk : okE z ⟨ep, en, es⟩ = false := by
            cases h : okE z ⟨ep, en, es⟩ with
            | false => rfl
            | true => have := okE_iff.1 h; dsimp only at this; omega
          rw [unhide hstep, hk]; simp))
        clear hstep hni hprev hcp hcq
        go_wp2
        go_quiet (fail)
        go_wp2
        go_ret
        exact ⟨ret_bool (by rw [unhide hmay, unhide hf]), below_drewN hbw _⟩
      have hok : okE z ⟨ep, en, es⟩ = true := okE_iff.2 ⟨by dsimp only; omega, by dsimp only; omega, by dsimp only; omega, by dsimp only; omega⟩
      have hd1 : decide (ep < 0) = false := decide_eq_false q1
      have hd2 : decide (en < 0) = false := decide_eq_false q2
      have hd3 : decide (z < ep) = false := decide_eq_false q3
      have hd4 : decide (z - ep < en) = false := decide_eq_false q4
      replace hok := hide hok
      by_cases hi0 : i = 0
      · have hf := hide (show mayK L z (i + 1) = true by rw [unhide hstep, hm, unhide hok, hi0]; rfl)
        have hip : ¬ (0 : Int) < i := by omega
        have hipn : ¬ 0 < i := by omega
        have hd5n : decide (0 < i) = false := decide_eq_false hipn
        have hd5 : decide ((0 : Int) < i) = false := decide_eq_false hip
        clear hstep hni hprev
        replace hi0 := hide hi0
        go_wp2
        go_quiet (fail)
        replace hbw : Below w.heap.size w (wr.drewN nq) := below_drewN hbw _
        clear x0 x1 x2
        generalize wr.drewN nq = W5 at *
        obtain ⟨x0, x1, x2⟩ := unhide hcq W5 hbw
        dsimp only at x0 x1 x2
        clear hcp hcq
        go_wp2
        go_quiet (fail)
        go_wp2
        go_roundg g'
        case measure => omega
        case rel => exact ⟨i + 1, by go_num, by omega, unhide hf, below_drewN hbw _⟩
      have hin : i ≠ 0 := hi0
      have hip : 0 < i := by omega
      have hipz : (0 : Int) < i := by omega
      have hd5 : decide ((0 : Int) < i) = true := decide_eq_true hipz
      have hpo := unhide hprev hip
      obtain ⟨D, hD⟩ : ∃ D, L.getD (i - 1) ed0 = D := ⟨_, rfl⟩
      obtain ⟨dp, dn, ds⟩ := D
      rw [hD] at hpo
      obtain ⟨p1, p2, p3, p4⟩ := okE_iff.1 hpo
      dsimp only at p1 p2 p3 p4
      obtain ⟨i1, hi1⟩ : ∃ i1, i - 1 = i1 := ⟨_, rfl⟩
      have hm1 : IntKind.i64.wrap ((i : Int) - 1) = (i1 : Int) := by rw [wrapI _ (by omega) (by omega)]; omega
      have hm2 : (i : Int) - 1 = (i1 : Int) := by omega
      have hi1z : (i1 : Int) < n := by omega
      have hsub2 : IntKind.i64.wrap (ep - dp) = ep - dp := wrapI _ (by omega) (by omega)
      clear hprev hpo
      by_cases q5 : ep ≤ dp
      · have hd6 : decide (ep ≤ dp) = true := decide_eq_true q5
        have hf := hide (unhide hni (by
          have hk : gapE ⟨dp, dn, ds⟩ ⟨ep, en, es⟩ = false := by
            cases h : gapE ⟨dp, dn, ds⟩ ⟨ep, en, es⟩ with
            | false => rfl
            | true => have := gapE_iff.1 h; dsimp only at this; omega
          rw [unhide hstep, hD, hk, beq_false_of_ne hin]; simp))
        clear hstep hni
        replace hD := hide hD
        go_wp2
        go_quiet (fail)
        replace hbw : Below w.heap.size w (wr.drewN nq) := below_drewN hbw _
        clear x0 x1 x2
        generalize wr.drewN nq = W5 at *
        obtain ⟨x0, x1, x2⟩ := unhide hcq W5 hbw
        dsimp only at x0 x1 x2
        obtain ⟨y0, y1, y2⟩ := unhide hcp W5 hbw hip
        rw [unhide hD, hi1] at y0 y1
        dsimp only at y0 y1
        clear hcp hcq
        go_wp2
        go_quiet (fail)
        go_wp2
        go_ret
        exact ⟨ret_bool (by rw [unhide hmay, unhide hf]), below_drewN hbw _⟩
      by_cases q6 : ep - dp ≤ dn
      · have hd6 : decide (ep ≤ dp) = false := decide_eq_false q5
        have hd7 : decide (ep - dp ≤ dn) = true := decide_eq_true q6
        have hf := hide (unhide hni (by
          have hk : gapE ⟨dp, dn, ds⟩ ⟨ep, en, es⟩ = false := by
            cases h : gapE ⟨dp, dn, ds⟩ ⟨ep, en, es⟩ with
            | false => rfl
            | true => have := gapE_iff.1 h; dsimp only at this; omega
          rw [unhide hstep, hD, hk, beq_false_of_ne hin]; simp))
        clear hstep hni
        replace hD := hide hD
        go_wp2
        go_quiet (fail)
        replace hbw : Below w.heap.size w (wr.drewN nq) := below_drewN hbw _
        clear x0 x1 x2
        generalize wr.drewN nq = W5 at *
        obtain ⟨x0, x1, x2⟩ := unhide hcq W5 hbw
        dsimp only at x0 x1 x2
        obtain ⟨y0, y1, y2⟩ := unhide hcp W5 hbw hip
        rw [unhide hD, hi1] at y0 y1
        dsimp only at y0 y1
        clear hcp hcq
        go_wp2
        go_quiet (fail)
        go_wp2
        go_ret
        exact ⟨ret_bool (by rw [unhide hmay, unhide hf]), below_drewN hbw _⟩
      · have hd6 : decide (ep ≤ dp) = false := decide_eq_false q5
        have hd7 : decide (ep - dp ≤ dn) = false := decide_eq_false q6
        have hf := hide (show mayK L z (i + 1) = true by
          rw [unhide hstep, hm, unhide hok, hD, gapE_iff.2 ⟨by dsimp only; omega, by dsimp only; omega⟩]; simp)
        clear hstep hni
        replace hD := hide hD
        go_wp2
        go_quiet (fail)
        replace hbw : Below w.heap.size w (wr.drewN nq) := below_drewN hbw _
        clear x0 x1 x2
        generalize wr.drewN nq = W5 at *
        obtain ⟨x0, x1, x2⟩ := unhide hcq W5 hbw
        dsimp only at x0 x1 x2
        obtain ⟨y0, y1, y2⟩ := unhide hcp W5 hbw hip
        rw [unhide hD, hi1] at y0 y1
        dsimp only at y0 y1
        clear hcp hcq
        go_wp2
        go_quiet (fail)
        go_wp2
        go_roundg g'
        case measure => omega
        case rel => exact ⟨i + 1, by go_num, by omega, unhide hf, below_drewN hbw _⟩
    · have hlz : ¬ (i : Int) < n := by omega
      obtain rfl : i = n := by omega
      replace hm := hide hm
      go_wp2
      go_ret
      exact ⟨ret_bool (by rw [unhide hmay, unhide hm]), hbw⟩
end Go.Proofs.Ytpjpghigilbfaaa

/-
  Each edit back stands where its text came to stand, and says what was there.
-/
import Derived.Test.YtilakbhekbamiaaEdLaw
import Derived.Test.YtilakbhekbamiaaEdBegun
import Derived.Test.YtilakbhekbamiaaRefApply
import Derived.BigQuiet
namespace Go.Proofs.Ytilakbhekbamiaa
open Go.RowKit
set_option linter.unusedSimpArgs false
set_option linter.unusedVariables false
theorem back_lim {s : ByteArray} {l : List Ed} (hs : s.size ≤ 100) : ∀ e ∈ bakL s l, e.s.size ≤ 100 := by
  intro e he
  obtain ⟨i, hi, rfl⟩ := List.mem_map.1 he
  rw [bakK]
  dsimp only
  rw [ByteArray.size_extract]
  omega
theorem back_rng {s : ByteArray} {l : List Ed} (hm : mayB l s.size = true) (hl : l.length ≤ 12) (hs : s.size ≤ 100) (hB : ∀ e ∈ l, e.s.size ≤ 10) : Rng (bakL s l) := by
  intro e he
  obtain ⟨i, hi, rfl⟩ := List.mem_map.1 he
  have hi := List.mem_range.1 hi
  have h1 := pos_end hm hi
  have h2 := app_lim hm hl hs hB
  have h3 := hB _ (getD_mem hi)
  rw [bakK]
  dsimp only
  omega
set_option maxHeartbeats 8000000 in
set_option maxRecDepth 100000 in
theorem editBack_shell (a0 : ByteArray) (a1 : Value) (L1 : List Ed) (w : World) (w0 : a0.size ≤ maxLen) (w1 : Eds w a1 L1 ∧ ∀ e ∈ L1, e.wf) :
    Calls Try.prog 4 #[.string a0, a1] w fun e w' => e = .returned (.bool true) ∧ Below w.heap.size w w' := by
  have hs := cutS_le a0 100
  have HC := hide (fun w => cut_any a0 100 w w0 (by omega))
  obtain ⟨hE, hwf⟩ := w1
  obtain ⟨hr, hB⟩ := cutE_of hwf
  have hl := cutE_len L1
  have hwf := hide (fun e he => (hwf e he).2.2)
  have hL : Hid (∀ w, Eds w a1 L1 → Calls Try.prog 8 #[a1] w fun e w' => ∃ v, e = .returned v ∧ OwnE w' w.heap.size v (cutE L1) ∧ Below w.heap.size w w') := hide (fun w h => edCut_any a1 L1 w h (unhide hwf))
  generalize cutE L1 = L at *
  generalize cutS a0 100 = s at *
  clear hwf w0
  replace hE := hide hE
  replace hr := hide hr
  replace hB := hide hB
  have HB := hide (editbegun_any w)
  go_enter Try.func4, Try.ntmps4
  go_wp2_with fail
  refine (unhide HB).mono ?_
  rintro e W0 ⟨rfl, hb0⟩
  replace hE := hide ((unhide hE).below hb0)
  clear HB
  go_wp2_with fail
  refine (unhide HC _).mono ?_
  rintro e W1 ⟨rfl, rfl⟩
  clear HC
  go_wp2_with fail
  refine (unhide hL _ (unhide hE)).mono ?_
  rintro e W1 ⟨v, rfl, hown, hb1⟩
  replace hb1 := below3 hb0 hb1
  clear hb0 hE hL
  have hE := own_eds hown
  clear hown
  replace hE := hide hE
  go_wp2_with fail
  refine (pMay_any _ L s.size _ (unhide hE) (by omega) (by omega) (unhide hr)).mono ?_
  rintro e W2 ⟨rfl, hb2⟩
  replace hE := (unhide hE).below hb2
  replace hb1 := below3 hb1 hb2
  clear hb2
  cases hm : mayB L s.size with
  | false =>
    replace hm := hide hm
    replace hE := hide hE
    go_wp2
    go_ret
    exact ⟨rfl, hb1⟩
  | true =>
    have hbb := hide (bak_bak hm)
    have hat0 := hide (fun k h => may_at hm (k := k) h)
    have hsh := hide (fun k h => shK_lim hm (unhide hB) (k := k) h)
    have hbl := hide (bakL_len s L)
    have hbk := hide (fun k h => (bakL_at s L (k := k) h))
    have hbi := hide (fun k p m es h => bakK_is hm (k := k) (p := p) (m := m) (es := es) h)
    have hba := hide (bak_may hm)
    have hblm := hide (back_lim (s := s) (l := L) hs)
    have hbrn := hide (back_rng hm hl hs (unhide hB))
    have halm := hide (app_lim hm hl hs (unhide hB))
    replace hm := hide hm
    replace hE := hide hE
    go_wp2_with fail
    refine (pBack_yes _ L s _ (unhide hE) (by omega) (by omega) (fun e he => Nat.le_trans (unhide hB e he) (by omega)) (unhide hr) (unhide hm)).mono ?_
    rintro e W3 ⟨u, rfl, hown, hb3⟩
    replace hE := (unhide hE).below hb3
    replace hb1 := below3 hb1 hb3
    clear hb3
    have hF := own_eds hown
    clear hown
    obtain ⟨a, c, rfl, h1, h2, h3⟩ := id hE
    obtain ⟨b, d, rfl, k1, k2, k3⟩ := id hF
    unfold maxLen at h2 k2
    obtain ⟨n, hn⟩ : ∃ n, L.length = n := ⟨_, rfl⟩
    rw [unhide hbl, hn] at k1 k3 hF ⊢
    rw [hn] at hl h1 h3 hE
    replace hE := hide hE
    replace hF := hide hF
    replace h3 := hide h3
    replace k3 := hide k3
    go_wp2
    go_loopg [7, 8] n (fun gf s7 s8 wx => ∃ i : Nat, s7 = .int .i64 (shK L i) ∧ s8 = .int .i64 i ∧ i + gf = n ∧ Below W3.heap.size W3 wx)
    case atStart => exact ⟨0, rfl, rfl, by omega, Below.refl _ _⟩
    case round =>
      obtain ⟨i, rfl, rfl, hi, hbw⟩ := hrel
      by_cases hlt : i < n
      · have hlz : (i : Int) < n := by omega
        obtain ⟨g', rfl⟩ : ∃ g', gk = g' + 1 := ⟨gk - 1, by omega⟩
        obtain ⟨g, off, rfl, hg, hc⟩ := unhide h3 (by omega)
        obtain ⟨j, off', rfl, hj, hd⟩ := unhide k3 (by omega)
        obtain ⟨q1, q2, q3, q4, q5⟩ := unhide hat0 i (by omega)
        obtain ⟨sh1, sh2⟩ := unhide hsh i (by omega)
        have hd := (hd i hlt).below hj hbw
        rw [unhide hbk i (by omega)] at hd
        have hBi := unhide hB _ (getD_mem (l := L) (k := i) (by omega))
        have hnext : Hid (shK L (i + 1) = shK L i + ((L.getD i ed0).s.size - (L.getD i ed0).n)) := hide rfl
        have hkk := fun p m es => unhide hbi i p m es (by omega)
        have hcq : Hid (∀ wx, Below W3.heap.size W3 wx → EdAt wx g (off + i * 3) (L.getD i ed0)) := hide (fun wx hx => (hc i hlt).below hg hx)
        clear hc
        generalize L.getD i ed0 = E at *
        obtain ⟨ep, en, es⟩ := E
        dsimp only at *
        obtain ⟨p, rfl⟩ := Int.eq_ofNat_of_zero_le q1
        obtain ⟨m, rfl⟩ := Int.eq_ofNat_of_zero_le q2
        rw [hkk p m es rfl] at hd
        obtain ⟨y0, y1, y2⟩ := hd
        obtain ⟨x0, x1, x2⟩ := unhide hcq wr hbw
        dsimp only at x0 x1 x2
        clear hkk q4 q5
        generalize shK L i = sh at *
        have hz2 : n * (s.size + 10) ≤ 12 * 110 := Nat.mul_le_mul hl (by omega)
        have hz3 : i * (s.size + 10) ≤ 12 * 110 := Nat.mul_le_mul (by omega) (by omega)
        have hes : es.size ≤ 10 := hBi
        have hadd : IntKind.i64.wrap ((p : Int) + sh) = (p : Int) + sh := wrapI _ (by omega) (by omega)
        have hadd2 : IntKind.i64.wrap ((p : Int) + m) = (p : Int) + m := wrapI _ (by omega) (by omega)
        have hfit : (p : Int) + m ≤ s.size := by omega
        have hple : (p : Int) ≤ (p : Int) + m := by omega
        have ne1 : (((p : Int) + sh) != ((p : Int) + sh)) = false := by simp
        have ne2 : ((es.size : Int) != (es.size : Int)) = false := by simp
        have ne3 : (!((s.extract p (p + m)).toList == (s.extract p (p + m)).toList)) = false := by simp
        have ne4 : ((s.extract p (p + m)).toList != (s.extract p (p + m)).toList) = false := by simp
        have htn : ((p : Int) + m).toNat = p + m := by omega
        have hid : (i : Int) < d := by omega
        have hic : (i : Int) < c := by omega
        go_upto_region 14 with fail
        go_quiet (fail)
        replace hbw : Below W3.heap.size W3 (wr.drewN nq) := below_drewN hbw _
        clear x0 x1 x2 y0 y1 y2
        generalize wr.drewN nq = W5 at *
        obtain ⟨x0, x1, x2⟩ := unhide hcq W5 hbw
        dsimp only at x0 x1 x2
        have hsub : IntKind.i64.wrap ((es.size : Int) - m) = (es.size : Int) - m := wrapI _ (by omega) (by omega)
        have hsum : IntKind.i64.wrap (sh + ((es.size : Int) - m)) = sh + ((es.size : Int) - m) := wrapI _ (by omega) (by omega)
        go_upto_region 16 with fail
        go_quiet (fail)
        go_wp2
        go_roundg g'
        case measure => omega
        case rel => exact ⟨i + 1, by rw [unhide hnext], by go_num, by omega, below_drewN hbw _⟩
      · have hlz : ¬ (i : Int) < n := by omega
        obtain rfl : i = n := by omega
        replace hE := hide ((unhide hE).below hbw)
        replace hF := hide ((unhide hF).below hbw)
        replace hb1 := hide (below3 hb1 hbw)
        clear hbw h3 k3 hat0 hsh hbk hbi
        go_wp2_with fail
        refine (rApply_any _ L s _ (unhide hE) (by omega) (by omega) (fun e he => Nat.le_trans (unhide hB e he) (by omega)) (unhide hm)).mono ?_
        rintro e W4 ⟨rfl, hb4⟩
        replace hE := hide ((unhide hE).below hb4)
        replace hF := hide ((unhide hF).below hb4)
        replace hb1 := hide (below3 (unhide hb1) hb4)
        clear hb4
        have hlm := unhide halm
        go_wp2_with fail
        refine (pBack_yes _ (bakL s L) (appS s L) _ (unhide hF) (by rw [unhide hbl]; omega) (by omega) (fun e he => Nat.le_trans (unhide hblm e he) (by omega)) (unhide hbrn) (unhide hba)).mono ?_
        rintro e W5 ⟨u, rfl, hown, hb5⟩
        rw [unhide hbb] at hown
        have hG := own_eds hown
        replace hE := hide ((unhide hE).below hb5)
        replace hb1 := hide (below3 (unhide hb1) hb5)
        clear hb5 hown
        replace hG := hide hG
        go_wp2_with fail
        refine (pEq_any _ _ L L _ (unhide hG) (unhide hE) (by omega) (by omega)).mono ?_
        rw [eqB_iff.2 rfl]
        rintro e W6 ⟨rfl, hb6⟩
        replace hb1 := hide (below3 (unhide hb1) hb6)
        go_wp2
        go_ret
        exact ⟨rfl, unhide hb1⟩
end Go.Proofs.Ytilakbhekbamiaa

/-
  Which edits may be; what comes of them; edits back make the text again.
-/
import Derived.Test.YtilakbhekbamiaaEdLaw
import Derived.Test.YtilakbhekbamiaaEdBegun
import Derived.Test.YtilakbhekbamiaaRefApply
import Derived.Test.YtilakbhekbamiaaLawEditBack
import Derived.BigQuiet
namespace Go.Proofs.Ytilakbhekbamiaa
open Go.RowKit
set_option linter.unusedSimpArgs false
set_option linter.unusedVariables false
def appM (s : ByteArray) (L : List Ed) : Bool → ByteArray
  | true => appS s L
  | false => ⟨#[]⟩
def bakM (s : ByteArray) (L : List Ed) : Bool → List Ed
  | true => bakL s L
  | false => []
theorem pApply_all (v : Value) (L : List Ed) (s : ByteArray) (M : Bool) (w : World) (h : Eds w v L) (hl : L.length ≤ 1000) (hs : s.size ≤ 1000000) (hB : ∀ e ∈ L, e.s.size ≤ 1000000) (hr : Rng L) (hm : mayB L s.size = M) :
    Calls Try.prog 10 #[.string s, v] w fun e w' => e = .returned (.tuple #[.string (appM s L M), .bool M]) ∧ Below w.heap.size w w' := by
  cases M with
  | true => exact pApply_yes v L s w h hl hs hB hr hm
  | false => exact pApply_no v L s w h hl (by omega) hr hm
theorem pBack_all (v : Value) (L : List Ed) (s : ByteArray) (M : Bool) (w : World) (h : Eds w v L) (hl : L.length ≤ 1000) (hs : s.size ≤ 1000000) (hB : ∀ e ∈ L, e.s.size ≤ 1000000) (hr : Rng L) (hm : mayB L s.size = M) :
    Calls Try.prog 11 #[.string s, v] w fun e w' => ∃ u, e = .returned u ∧ Eds w' u (bakM s L M) ∧ Below w.heap.size w w' := by
  cases M with
  | true =>
    refine (pBack_yes v L s w h hl hs hB hr hm).mono ?_
    rintro e w' ⟨u, rfl, ho, hb⟩
    exact ⟨u, rfl, own_eds ho, hb⟩
  | false =>
    refine (pBack_no v L s w h hl (by omega) hr hm).mono ?_
    rintro e w' ⟨rfl, hb⟩
    exact ⟨_, rfl, ⟨none, 0, rfl, Nat.le_refl _, Nat.zero_le _, fun h => by simp [bakM] at h⟩, hb⟩
set_option maxHeartbeats 8000000 in
set_option maxRecDepth 100000 in
theorem editAll_shell (a0 : ByteArray) (a1 : Value) (L1 : List Ed) (a2 : Value) (L2 : List Ed) (w : World) (w0 : a0.size ≤ maxLen) (w1 : Eds w a1 L1 ∧ ∀ e ∈ L1, e.wf) (w2 : Eds w a2 L2 ∧ ∀ e ∈ L2, e.wf) :
    Calls Try.prog 3 #[.string a0, a1, a2] w fun e w' => e = .returned (.bool true) ∧ Below w.heap.size w w' := by
  have hs := cutS_le a0 100
  have HC := hide (fun w => cut_any a0 100 w w0 (by omega))
  obtain ⟨hE, hwf⟩ := w1
  obtain ⟨hF, hwg⟩ := w2
  obtain ⟨hr, hB⟩ := cutE_of hwf
  have hl := cutE_len L1
  have hl2 := cutE_len L2
  replace hwf := hide (fun e he => (hwf e he).2.2)
  replace hwg := hide (fun e he => (hwg e he).2.2)
  have hL : Hid (∀ w, Eds w a1 L1 → Calls Try.prog 8 #[a1] w fun e w' => ∃ v, e = .returned v ∧ OwnE w' w.heap.size v (cutE L1) ∧ Below w.heap.size w w') := hide (fun w h => edCut_any a1 L1 w h (unhide hwf))
  have hL2 : Hid (∀ w, Eds w a2 L2 → Calls Try.prog 8 #[a2] w fun e w' => ∃ v, e = .returned v ∧ OwnE w' w.heap.size v (cutE L2) ∧ Below w.heap.size w w') := hide (fun w h => edCut_any a2 L2 w h (unhide hwg))
  generalize cutE L1 = L at *
  generalize cutE L2 = K at *
  generalize cutS a0 100 = s at *
  clear hwf w0 hwg
  obtain ⟨M, hm⟩ : ∃ M, mayB L s.size = M := ⟨_, rfl⟩
  replace hm := hide hm
  replace hE := hide hE
  replace hF := hide hF
  replace hr := hide hr
  replace hB := hide hB
  have HB := hide (editbegun_any w)
  go_enter Try.func3, Try.ntmps3
  go_wp2_with fail
  refine (unhide HB).mono ?_
  rintro e W0 ⟨rfl, hb0⟩
  replace hE := hide ((unhide hE).below hb0)
  replace hF := hide ((unhide hF).below hb0)
  clear HB
  go_wp2_with fail
  refine (unhide HC _).mono ?_
  rintro e W1 ⟨rfl, rfl⟩
  clear HC
  go_wp2_with fail
  refine (unhide hL _ (unhide hE)).mono ?_
  rintro e W1 ⟨v, rfl, hown, hb1⟩
  replace hF := hide ((unhide hF).below hb1)
  replace hb1 := below3 hb0 hb1
  clear hb0 hE hL
  have hE := own_eds hown
  clear hown
  replace hE := hide hE
  go_wp2_with fail
  refine (unhide hL2 _ (unhide hF)).mono ?_
  rintro e W2 ⟨u, rfl, hown, hb2⟩
  replace hE := hide ((unhide hE).below hb2)
  replace hb1 := hide (below3 hb1 hb2)
  clear hF hL2 hb2
  have hF := own_eds hown
  clear hown
  replace hF := hide hF
  go_wp2_with fail
  refine (rMay_any _ L s.size _ (unhide hE) (by omega) (by omega) (unhide hr)).mono ?_
  rw [unhide hm]
  rintro e W3 ⟨rfl, hb3⟩
  replace hE := hide ((unhide hE).below hb3)
  replace hF := hide ((unhide hF).below hb3)
  replace hb1 := hide (below3 (unhide hb1) hb3)
  clear hb3
  go_wp2_with fail
  refine (pApply_all _ L s M _ (unhide hE) (by omega) (by omega) (fun e he => Nat.le_trans (unhide hB e he) (by omega)) (unhide hr) (unhide hm)).mono ?_
  rintro e W4 ⟨rfl, hb4⟩
  replace hE := hide ((unhide hE).below hb4)
  replace hF := hide ((unhide hF).below hb4)
  replace hb1 := hide (below3 (unhide hb1) hb4)
  clear hb4
  go_wp2_with fail
  refine (pBack_all _ L s M _ (unhide hE) (by omega) (by omega) (fun e he => Nat.le_trans (unhide hB e he) (by omega)) (unhide hr) (unhide hm)).mono ?_
  rintro e W5 ⟨bv, rfl, hG, hb5⟩
  replace hE := (unhide hE).below hb5
  replace hF := (unhide hF).below hb5
  replace hb1 := hide (below3 (unhide hb1) hb5)
  clear hb5
  obtain ⟨a, c, rfl, h1, h2, h3⟩ := id hE
  obtain ⟨b, d, rfl, k1, k2, k3⟩ := id hF
  obtain ⟨bb, bc, rfl, j1, j2, j3⟩ := id hG
  unfold maxLen at h2 k2 j2
  obtain ⟨n, hn⟩ : ∃ n, L.length = n := ⟨_, rfl⟩
  obtain ⟨m, hn2⟩ : ∃ m, K.length = m := ⟨_, rfl⟩
  have hq : Hid (eqB L K = (n == m && eqK L K n)) := hide (by rw [eqB, hn, hn2])
  rw [hn] at hl h1 h3 hE ⊢
  rw [hn2] at hl2 k1 k3 hF ⊢
  replace hE := hide hE
  replace hF := hide hF
  replace hG := hide hG
  replace h3 := hide h3
  replace k3 := hide k3
  replace j3 := hide j3
  generalize hbm : (bakM s L M).length = bn at *
  replace hbm := hide hbm
  generalize hT : appM s L M = T at *
  replace hT := hide hT
  have hst : ((n : Int) == (m : Int)) = (n == m) := by rw [Bool.eq_iff_iff, beq_iff_eq, beq_iff_eq]; omega
  go_wp2
  go_loopg [12, 13] n (fun gf s12 s13 wx => ∃ i : Nat, s12 = .bool (n == m && eqK L K i) ∧ s13 = .int .i64 i ∧ i + gf = n ∧ i ≤ m ∧ Below W5.heap.size W5 wx)
  case atStart => exact ⟨0, by rw [eqK, Bool.and_true], rfl, by omega, by omega, Below.refl _ _⟩
  case round =>
    obtain ⟨i, rfl, rfl, hi, him, hbw⟩ := hrel
    by_cases hlt : i < n ∧ i < m
    · obtain ⟨hlt, hlt2⟩ := hlt
      have hlz : (i : Int) < n := by omega
      have hlz2 : (i : Int) < m := by omega
      obtain ⟨g', rfl⟩ : ∃ g', gk = g' + 1 := ⟨gk - 1, by omega⟩
      obtain ⟨g, off, rfl, hg, hc⟩ := unhide h3 (by omega)
      obtain ⟨j, off', rfl, hj, hd⟩ := unhide k3 (by omega)
      have hst : Hid (eqK L K (i + 1) = (eqK L K i && eqE (L.getD i ed0) (K.getD i ed0))) := hide rfl
      obtain ⟨x0, x1, x2⟩ := (hc i hlt).below hg hbw
      obtain ⟨y0, y1, y2⟩ := (hd i hlt2).below hj hbw
      clear hc hd
      generalize L.getD i ed0 = E at *
      generalize K.getD i ed0 = F at *
      obtain ⟨ep, en, es⟩ := E
      obtain ⟨fp, fn, fs⟩ := F
      dsimp only at *
      have hnew : Hid ((n == m && eqK L K (i + 1)) = ((n == m && eqK L K i) && eqE ⟨ep, en, es⟩ ⟨fp, fn, fs⟩)) := hide (by rw [unhide hst, Bool.and_assoc])
      generalize (n == m && eqK L K i) = sm at *
      clear hst
      have hid : (i : Int) < d := by omega
      have hic : (i : Int) < c := by omega
      cases sm with
      | false =>
        go_upto_region 12 with fail
        go_quiet (fail)
        go_wp2
        go_roundg g'
        case measure => omega
        case rel => exact ⟨i + 1, by rw [unhide hnew]; rfl, by go_num, by omega, by omega, below_drewN hbw _⟩
      | true =>
        by_cases c1 : ep = fp
        · by_cases c2 : en = fn
          · cases c3 : (es.toList == fs.toList) with
            | false =>
              have hv : Hid ((true && eqE ⟨ep, en, es⟩ ⟨fp, fn, fs⟩) = false) := hide (by
                rw [ByteArray.toList_eq, ByteArray.toList_eq] at c3
                rw [eqE]; dsimp only; rw [c3, Bool.and_false, Bool.and_false]; rfl)
              have e1 : (ep == fp) = true := by simpa using c1
              have e2 : (en == fn) = true := by simpa using c2
              clear c1 c2
              go_upto_region 12 with fail
              go_quiet (fail)
              go_wp2
              go_roundg g'
              case measure => omega
              case rel => exact ⟨i + 1, by rw [unhide hnew]; exact congrArg Value.bool (unhide hv).symm, by go_num, by omega, by omega, below_drewN hbw _⟩
            | true =>
              have hv : Hid ((true && eqE ⟨ep, en, es⟩ ⟨fp, fn, fs⟩) = true) := hide (by
                rw [ByteArray.toList_eq, ByteArray.toList_eq] at c3
                rw [eqE]; dsimp only; rw [c3, c1, c2]; simp)
              have e1 : (ep == fp) = true := by simpa using c1
              have e2 : (en == fn) = true := by simpa using c2
              clear c1 c2
              go_upto_region 12 with fail
              go_quiet (fail)
              go_wp2
              go_roundg g'
              case measure => omega
              case rel => exact ⟨i + 1, by rw [unhide hnew]; exact congrArg Value.bool (unhide hv).symm, by go_num, by omega, by omega, below_drewN hbw _⟩
          · have hv : Hid ((true && eqE ⟨ep, en, es⟩ ⟨fp, fn, fs⟩) = false) := hide (by
              rw [eqE]; dsimp only; rw [beq_eq_false_iff_ne.2 c2, Bool.false_and, Bool.and_false]; rfl)
            have e1 : (ep == fp) = true := by simpa using c1
            have e2 : decide (en = fn) = false := by simpa using c2
            have e3 : (en == fn) = false := by simpa using c2
            clear c1 c2
            go_upto_region 12 with fail
            go_quiet (fail)
            go_wp2
            go_roundg g'
            case measure => omega
            case rel => exact ⟨i + 1, by rw [unhide hnew]; exact congrArg Value.bool (unhide hv).symm, by go_num, by omega, by omega, below_drewN hbw _⟩
        · have hv : Hid ((true && eqE ⟨ep, en, es⟩ ⟨fp, fn, fs⟩) = false) := hide (by
            rw [eqE]; dsimp only; rw [beq_eq_false_iff_ne.2 c1, Bool.false_and, Bool.and_false])
          have e1 : decide (ep = fp) = false := by simpa using c1
          have e3 : (ep == fp) = false := by simpa using c1
          clear c1
          go_upto_region 12 with fail
          go_quiet (fail)
          go_wp2
          go_roundg g'
          case measure => omega
          case rel => exact ⟨i + 1, by rw [unhide hnew]; exact congrArg Value.bool (unhide hv).symm, by go_num, by omega, by omega, below_drewN hbw _⟩
    · have hsm : (n == m && eqK L K i) = eqB L K := by
        rw [unhide hq]
        by_cases hnm : n = m
        · rw [show i = n by omega]
        · rw [beq_eq_false_iff_ne.2 hnm, Bool.false_and, Bool.false_and]
      rw [hsm]
      have hw : (¬ (i : Int) < n) ∨ ((i : Int) < n ∧ ¬ (i : Int) < m) := by omega
      replace hE := hide ((unhide hE).below hbw)
      replace hF := hide ((unhide hF).below hbw)
      replace hG := hide ((unhide hG).below hbw)
      replace hb1 := hide (below3 (unhide hb1) hbw)
      clear hbw h3 k3 j3 hst
      have hQ := fun w h1 h2 => pEq_any (.slice a n c) (.slice b m d) L K w h1 h2 (by omega) (by omega)
      clear hq hsm
      generalize eqB L K = sm at *
      replace hQ := hide hQ
      have hsm : (sm != sm) = false := by simp
      rcases hw with hlz | ⟨hlz, hlz2⟩
      all_goals
        cases M with
        | true =>
          obtain rfl : appS s L = T := unhide hT
          obtain rfl : n = bn := by rw [← unhide hbm, ← hn]; exact (bakL_len s L).symm
          replace hG : Hid (Eds _ (.slice bb n bc) (bakL s L)) := hG
          have hba := hide (bak_may (unhide hm))
          have hbq := hide (bak_app (unhide hm))
          have hblm := hide (back_lim (s := s) (l := L) hs)
          have hbrn := hide (back_rng (unhide hm) (by omega) hs (unhide hB))
          have hlm := app_lim (unhide hm) (by omega) hs (unhide hB)
          have hbl : Hid ((bakL s L).length = n) := hbm
          go_wp2_with fail
          refine (pMay_any _ L s.size _ (unhide hE) (by omega) (by omega) (unhide hr)).mono ?_
          rw [unhide hm]
          rintro e W6 ⟨rfl, hb6⟩
          replace hE := hide ((unhide hE).below hb6)
          replace hF := hide ((unhide hF).below hb6)
          replace hG := hide ((unhide hG).below hb6)
          replace hb1 := hide (below3 (unhide hb1) hb6)
          clear hb6
          go_wp2_with fail
          refine (unhide hQ _ (unhide hE) (unhide hF)).mono ?_
          rintro e W7 ⟨rfl, hb7⟩
          replace hE := hide ((unhide hE).below hb7)
          replace hG := hide ((unhide hG).below hb7)
          replace hb1 := hide (below3 (unhide hb1) hb7)
          clear hb7 hQ
          go_wp2_with fail
          refine (rApply_any _ L s _ (unhide hE) (by omega) (by omega) (fun e he => Nat.le_trans (unhide hB e he) (by omega)) (unhide hm)).mono ?_
          rintro e W8 ⟨rfl, hb8⟩
          replace hG := hide ((unhide hG).below hb8)
          replace hb1 := hide (below3 (unhide hb1) hb8)
          clear hb8 hE
          have hne : ((appS s L).toList != (appS s L).toList) = false := by simp
          generalize appS s L = T at *
          go_wp2_with fail
          refine (pMay_any _ (bakL s L) T.size _ (unhide hG) (by rw [unhide hbl]; omega) (by omega) (unhide hbrn)).mono ?_
          rw [unhide hba]
          rintro e W9 ⟨rfl, hb9⟩
          replace hG := hide ((unhide hG).below hb9)
          replace hb1 := hide (below3 (unhide hb1) hb9)
          clear hb9
          go_wp2_with fail
          refine (pApply_yes _ (bakL s L) T _ (unhide hG) (by rw [unhide hbl]; omega) (by omega) (fun e he => Nat.le_trans (unhide hblm e he) (by omega)) (unhide hbrn) (unhide hba)).mono ?_
          rw [unhide hbq]
          rintro e W10 ⟨rfl, hb10⟩
          replace hb1 := hide (below3 (unhide hb1) hb10)
          have hse : (s.toList == s.toList) = true := beq_self_eq_true _
          go_wp2
          go_ret
          exact ⟨rfl, unhide hb1⟩
        | false =>
          obtain rfl : (⟨#[]⟩ : ByteArray) = T := unhide hT
          obtain rfl : 0 = bn := unhide hbm
          go_wp2_with fail
          refine (pMay_any _ L s.size _ (unhide hE) (by omega) (by omega) (unhide hr)).mono ?_
          rw [unhide hm]
          rintro e W6 ⟨rfl, hb6⟩
          replace hE := hide ((unhide hE).below hb6)
          replace hF := hide ((unhide hF).below hb6)
          replace hG := hide ((unhide hG).below hb6)
          replace hb1 := hide (below3 (unhide hb1) hb6)
          clear hb6
          go_wp2_with fail
          refine (unhide hQ _ (unhide hE) (unhide hF)).mono ?_
          rintro e W7 ⟨rfl, hb7⟩
          replace hE := hide ((unhide hE).below hb7)
          replace hG := hide ((unhide hG).below hb7)
          replace hb1 := hide (below3 (unhide hb1) hb7)
          clear hb7 hQ
          go_wp2
          go_ret
          exact ⟨rfl, unhide hb1⟩
end Go.Proofs.Ytilakbhekbamiaa

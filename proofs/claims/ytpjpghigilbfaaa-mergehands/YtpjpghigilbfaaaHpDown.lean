/-
  container/heap's down.
-/
import Derived.Test.YtpjpghigilbfaaaHpUp
namespace Go.Proofs.Ytpjpghigilbfaaa
open Go.RowKit Go.Lib Go.Sort
set_option linter.unusedSimpArgs false
set_option linter.unusedVariables false
set_option maxHeartbeats 4000000 in
set_option maxRecDepth 100000 in
theorem down_any (b g cap n : Nat) (H : List Ed) (w : World) (hp : PileAt w b (.slice (some ⟨g, 0, none⟩) H.length cap)) (hr : RowE w g cap H) (hbg : b ≠ g) (hn : n ≤ H.length) (hl : H.length ≤ 1000) (hd : DnI H n 0) :
    Calls Try.prog 28 #[.iface 48 (.pointer (some ⟨b, 0, none⟩)), .int .i64 0, .int .i64 n] w fun e w' => ∃ z : Value, e = .returned z ∧ ∃ H', H'.length = H.length ∧ H'.Perm H ∧ Heap H' n ∧ (∀ k, n ≤ k → at0 H' k = at0 H k) ∧ RowE w' g cap H' ∧ w.grownBy w' (some g) := by
  obtain ⟨N, hN⟩ : ∃ N, H.length = N := ⟨_, rfl⟩
  rw [hN] at hp hn hl ⊢
  replace hr := hide hr
  replace hd := hide hd
  go_enter Try.func28, Try.ntmps28
  go_wp2
  go_loopg [7, 8, 9, 10] n (fun gf s7 s8 s9 s10 wx => ∃ (i : Nat) (K : List Ed), s7 = .int .i64 i ∧ n ≤ i + gf ∧ i ≤ n ∧ K.length = N ∧ K.Perm H ∧ DnI K n i ∧ (∀ k, n ≤ k → at0 K k = at0 H k) ∧ PileAt wx b (.slice (some ⟨g, 0, none⟩) N cap) ∧ RowE wx g cap K ∧ w.grownBy wx (some g))
  case atStart => exact ⟨0, H, rfl, by omega, by omega, hN, .refl _, unhide hd, fun _ _ => rfl, hp, unhide hr, grown_refl _ _⟩
  case round =>
    obtain ⟨i, K, rfl, hig, hin, hKn, hKp, hU, hKt, hpa, hrow, hgr⟩ := hrel
    obtain ⟨j1, hj1⟩ : ∃ j1, 2 * i + 1 = j1 := ⟨_, rfl⟩
    obtain ⟨j2, hj2⟩ : ∃ j2, j1 + 1 = j2 := ⟨_, rfl⟩
    have hmul : IntKind.i64.wrap (2 * (i : Int)) = 2 * (i : Int) := wrapI _ (by omega) (by omega)
    have hj1z : 2 * (i : Int) + 1 = (j1 : Int) := by omega
    have hj2z : (j1 : Int) + 1 = (j2 : Int) := by omega
    have hneg : ¬ (j1 : Int) < 0 := by omega
    replace hU := hide hU
    replace hKp := hide hKp
    replace hKn := hide hKn
    replace hKt := hide hKt
    by_cases hc1 : j1 < n
    · have hc1z : (j1 : Int) < n := by omega
      have hc1y : ¬ (n : Int) ≤ j1 := by omega
      obtain ⟨g2, rfl⟩ : ∃ g2, gk = g2 + 1 := ⟨gk - 1, by omega⟩
      by_cases hc2 : j2 < n
      · have hc2z : (j2 : Int) < n := by omega
        have hm0 := meth_less b _ _ _ _ hpa.cell
        have hL := hide (pileLess_any g cap j2 j1 K wr hrow (by rw [unhide hKn]; omega) (by rw [unhide hKn]; omega))
        rw [unhide hKn] at hL
        have hpg := hide (fun q os => hpa.grown q os)
        have hrg := hide (fun q os => hrow.grown q os)
        have hgg := hide (fun q os => hgr.trans1 (grown_of_grow (w := wr) q os (some g)))
        replace hrow := hide hrow
        replace hgr := hide hgr
        obtain ⟨q, hq⟩ : ∃ q, ltE (K.getD j2 ed0) (K.getD j1 ed0) = q := ⟨_, rfl⟩
        rw [hq] at hL
        replace hq := hide hq
        go_wp2_with fail
        refine (unhide hL).mono ?_
        rintro e W1 ⟨rfl, q1, os1, rfl⟩
        have PW := hide (unhide hpg q1 os1)
        have RW := hide (unhide hrg q1 os1)
        have GW := hide (unhide hgg q1 os1)
        clear hpg hrg hgg hm0
        generalize grow (wr.drewN q1) os1 = W at *
        cases q with
        | true =>
          have hmin : Hid (∀ c, 0 < c → c < n → (c - 1) / 2 = i → ltE (at0 K c) (at0 K j2) = false) := hide (fun c c0 hc hp => by
            rcases (by omega : c = j1 ∨ c = j2) with rfl | rfl
            · exact ltE_asymm (unhide hq)
            · exact ltE_irrefl _)
          have hmL := meth_less b _ _ _ _ (unhide PW).cell
          have hL2 := hide (pileLess_any g cap j2 i K W (unhide RW) (by rw [unhide hKn]; omega) (by rw [unhide hKn]; omega))
          rw [unhide hKn] at hL2
          obtain ⟨r, hr'⟩ : ∃ r, ltE (K.getD j2 ed0) (K.getD i ed0) = r := ⟨_, rfl⟩
          rw [hr'] at hL2
          replace hr' := hide hr'
          go_wp2_with fail
          refine (unhide hL2).mono ?_
          rintro e W3 ⟨rfl, q3, os3, rfl⟩
          cases r with
          | false =>
            have hfin := hide (dn_end (unhide hU) (fun c c0 hc hp => ltE_ntrans (unhide hmin c c0 hc hp) (unhide hr')))
            go_wp2
            go_ret
            exact ⟨_, rfl, K, unhide hKn, unhide hKp, unhide hfin, unhide hKt, (unhide RW).grown q3 os3, (unhide GW).trans1 (grown_of_grow (w := W) q3 os3 (some g))⟩
          | true =>
            have hmS := meth_swap b _ _ _ _ ((unhide PW).grown q3 os3).cell
            have hS := hide (pileSwap_any g cap i j2 K (grow (W.drewN q3) os3) ((unhide RW).grown q3 os3) (by rw [unhide hKn]; omega) (by rw [unhide hKn]; omega))
            rw [unhide hKn] at hS
            have hnx := hide (dn_step (unhide hU) (by rw [unhide hKn]; omega) (by omega) (by omega) (by omega) (unhide hr') (unhide hmin))
            have hsp := hide ((swp_perm K i j2 (by rw [unhide hKn]; omega) (by rw [unhide hKn]; omega)).trans (unhide hKp))
            have hsl : Hid ((swpL K i j2).length = N) := hide (by rw [swpL_len, unhide hKn])
            have hst : Hid (∀ k, n ≤ k → at0 (swpL K i j2) k = at0 H k) := hide (fun k hk => by
              rw [at0_swp K i j2 k (by rw [unhide hKn]; omega) (by rw [unhide hKn]; omega), if_neg (by omega), if_neg (by omega)]
              exact unhide hKt k hk)
            go_wp2_with fail
            refine (unhide hS).mono ?_
            rintro e W4 ⟨rfl, hr4, hg4⟩
            have hp4 := hide (PileAt.kept ((unhide PW).grown q3 os3) hg4 hbg)
            have hgr4 := hide (((unhide GW).trans1 (grown_of_grow (w := W) q3 os3 (some g))).trans1 hg4)
            replace hr4 := hide hr4
            replace hg4 := hide hg4
            go_wp2
            go_roundg g2
            case measure => omega
            case rel => exact ⟨j2, swpL K i j2, by trivial, by omega, by omega, unhide hsl, unhide hsp, unhide hnx, unhide hst, unhide hp4, unhide hr4, unhide hgr4⟩
        | false =>
          have hmin : Hid (∀ c, 0 < c → c < n → (c - 1) / 2 = i → ltE (at0 K c) (at0 K j1) = false) := hide (fun c c0 hc hp => by
            rcases (by omega : c = j1 ∨ c = j2) with rfl | rfl
            · exact ltE_irrefl _
            · exact unhide hq)
          have hmL := meth_less b _ _ _ _ (unhide PW).cell
          have hL2 := hide (pileLess_any g cap j1 i K W (unhide RW) (by rw [unhide hKn]; omega) (by rw [unhide hKn]; omega))
          rw [unhide hKn] at hL2
          obtain ⟨r, hr'⟩ : ∃ r, ltE (K.getD j1 ed0) (K.getD i ed0) = r := ⟨_, rfl⟩
          rw [hr'] at hL2
          replace hr' := hide hr'
          go_wp2_with fail
          refine (unhide hL2).mono ?_
          rintro e W3 ⟨rfl, q3, os3, rfl⟩
          cases r with
          | false =>
            have hfin := hide (dn_end (unhide hU) (fun c c0 hc hp => ltE_ntrans (unhide hmin c c0 hc hp) (unhide hr')))
            go_wp2
            go_ret
            exact ⟨_, rfl, K, unhide hKn, unhide hKp, unhide hfin, unhide hKt, (unhide RW).grown q3 os3, (unhide GW).trans1 (grown_of_grow (w := W) q3 os3 (some g))⟩
          | true =>
            have hmS := meth_swap b _ _ _ _ ((unhide PW).grown q3 os3).cell
            have hS := hide (pileSwap_any g cap i j1 K (grow (W.drewN q3) os3) ((unhide RW).grown q3 os3) (by rw [unhide hKn]; omega) (by rw [unhide hKn]; omega))
            rw [unhide hKn] at hS
            have hnx := hide (dn_step (unhide hU) (by rw [unhide hKn]; omega) (by omega) (by omega) (by omega) (unhide hr') (unhide hmin))
            have hsp := hide ((swp_perm K i j1 (by rw [unhide hKn]; omega) (by rw [unhide hKn]; omega)).trans (unhide hKp))
            have hsl : Hid ((swpL K i j1).length = N) := hide (by rw [swpL_len, unhide hKn])
            have hst : Hid (∀ k, n ≤ k → at0 (swpL K i j1) k = at0 H k) := hide (fun k hk => by
              rw [at0_swp K i j1 k (by rw [unhide hKn]; omega) (by rw [unhide hKn]; omega), if_neg (by omega), if_neg (by omega)]
              exact unhide hKt k hk)
            go_wp2_with fail
            refine (unhide hS).mono ?_
            rintro e W4 ⟨rfl, hr4, hg4⟩
            have hp4 := hide (PileAt.kept ((unhide PW).grown q3 os3) hg4 hbg)
            have hgr4 := hide (((unhide GW).trans1 (grown_of_grow (w := W) q3 os3 (some g))).trans1 hg4)
            replace hr4 := hide hr4
            replace hg4 := hide hg4
            go_wp2
            go_roundg g2
            case measure => omega
            case rel => exact ⟨j1, swpL K i j1, by trivial, by omega, by omega, unhide hsl, unhide hsp, unhide hnx, unhide hst, unhide hp4, unhide hr4, unhide hgr4⟩
      · have hc2z : ¬ (j2 : Int) < n := by omega
        have PW := hide hpa
        have RW := hide hrow
        have GW := hide hgr
        have hmin : Hid (∀ c, 0 < c → c < n → (c - 1) / 2 = i → ltE (at0 K c) (at0 K j1) = false) := hide (fun c c0 hc hp => by
          obtain rfl : c = j1 := by omega
          exact ltE_irrefl _)
        replace hrow := hide hrow
        replace hgr := hide hgr
        have hmL := meth_less b _ _ _ _ (unhide PW).cell
        have hL2 := hide (pileLess_any g cap j1 i K wr (unhide RW) (by rw [unhide hKn]; omega) (by rw [unhide hKn]; omega))
        rw [unhide hKn] at hL2
        obtain ⟨r, hr'⟩ : ∃ r, ltE (K.getD j1 ed0) (K.getD i ed0) = r := ⟨_, rfl⟩
        rw [hr'] at hL2
        replace hr' := hide hr'
        go_wp2_with fail
        refine (unhide hL2).mono ?_
        rintro e W3 ⟨rfl, q3, os3, rfl⟩
        cases r with
        | false =>
          have hfin := hide (dn_end (unhide hU) (fun c c0 hc hp => ltE_ntrans (unhide hmin c c0 hc hp) (unhide hr')))
          go_wp2
          go_ret
          exact ⟨_, rfl, K, unhide hKn, unhide hKp, unhide hfin, unhide hKt, (unhide RW).grown q3 os3, (unhide GW).trans1 (grown_of_grow (w := wr) q3 os3 (some g))⟩
        | true =>
          have hmS := meth_swap b _ _ _ _ ((unhide PW).grown q3 os3).cell
          have hS := hide (pileSwap_any g cap i j1 K (grow (wr.drewN q3) os3) ((unhide RW).grown q3 os3) (by rw [unhide hKn]; omega) (by rw [unhide hKn]; omega))
          rw [unhide hKn] at hS
          have hnx := hide (dn_step (unhide hU) (by rw [unhide hKn]; omega) (by omega) (by omega) (by omega) (unhide hr') (unhide hmin))
          have hsp := hide ((swp_perm K i j1 (by rw [unhide hKn]; omega) (by rw [unhide hKn]; omega)).trans (unhide hKp))
          have hsl : Hid ((swpL K i j1).length = N) := hide (by rw [swpL_len, unhide hKn])
          have hst : Hid (∀ k, n ≤ k → at0 (swpL K i j1) k = at0 H k) := hide (fun k hk => by
            rw [at0_swp K i j1 k (by rw [unhide hKn]; omega) (by rw [unhide hKn]; omega), if_neg (by omega), if_neg (by omega)]
            exact unhide hKt k hk)
          go_wp2_with fail
          refine (unhide hS).mono ?_
          rintro e W4 ⟨rfl, hr4, hg4⟩
          have hp4 := hide (PileAt.kept ((unhide PW).grown q3 os3) hg4 hbg)
          have hgr4 := hide (((unhide GW).trans1 (grown_of_grow (w := wr) q3 os3 (some g))).trans1 hg4)
          replace hr4 := hide hr4
          replace hg4 := hide hg4
          go_wp2
          go_roundg g2
          case measure => omega
          case rel => exact ⟨j1, swpL K i j1, by trivial, by omega, by omega, unhide hsl, unhide hsp, unhide hnx, unhide hst, unhide hp4, unhide hr4, unhide hgr4⟩
    · have hc1z : ¬ (j1 : Int) < n := by omega
      have hc1y : (n : Int) ≤ j1 := by omega
      have hfin := hide (dn_end (unhide hU) (fun c c0 hc hp => by omega))
      replace hrow := hide hrow
      replace hgr := hide hgr
      go_wp2
      go_ret
      exact ⟨⟨_, rfl⟩, K, unhide hKn, unhide hKp, unhide hfin, unhide hKt, unhide hrow, unhide hgr⟩
end Go.Proofs.Ytpjpghigilbfaaa

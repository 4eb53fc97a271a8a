/-
  CrcBurst's walk.
-/
import Derived.Test.YtjnempfjoebojaaDoorCrcRef
import Derived.Test.YtjnempfjoebojaaDoorOwn
import Derived.Test.YtjnempfjoebojaaDoorAppendBts
import Derived.BigRegion
namespace Go.Proofs.YtjnempfjoebojaaDoor
open Go.RowKit
theorem IsRow.len {k : IntKind} {w : World} {a : Option Addr} {len cap : Nat} {zs : List Int} (h : IsRow k w a len cap zs) (m : Nat) (hm : m ≤ len) : (zs.take m).length = m := by
  rcases h with ⟨_, rfl, rfl, rfl⟩ | ⟨_, _, h1, h2, h3, _⟩
  · simp; omega
  · simp; omega
set_option maxHeartbeats 1000000 in
set_option maxRecDepth 100000 in
theorem crcBurst_shell (a0 : Option Addr) (len0 cap0 : Nat) (z0 : List Int) (a1 : Int) (a2 : Option Addr) (len2 cap2 : Nat) (z2 : List Int) (w : World)
    (w0 : IsRow .u8 w a0 len0 cap0 z0) (w1 : (Lit.int .i64 a1).wf = true) (w2 : IsRow .u8 w a2 len2 cap2 z2) (ht0 : Tab w) :
    Calls Tryd.prog 4 #[.slice a0 len0 cap0, .int .i64 a1, .slice a2 len2 cap2] w fun e w' => e = .returned (.bool true) ∧ Below w.heap.size w w' := by
  obtain ⟨hat0, hat1⟩ := bounds_i64 w1
  clear w1
  go_enter Tryd.func4, Tryd.ntmps4
  go_wp2_with fail
  refine (crcbegun_any _ ht0).mono ?_
  rintro e W1 ⟨rfl, hbel1⟩
  have ht := ht0.of hbel1
  have w0' := w0.below hbel1
  have w2' := w2.below hbel1
  clear ht0 w0 w2
  go_wp2_with fail
  refine (short_any a0 len0 cap0 z0 200 _ w0' (by omega)).mono ?_
  rintro e W1 ⟨rfl, rfl⟩
  go_wp2_with fail
  refine (short_any a2 len2 cap2 z2 4 _ w2' (by omega)).mono ?_
  rintro e W1 ⟨rfl, rfl⟩
  have HA := hide (short_bts (n := 200) w0' (by omega))
  have HX := hide (short_bts (n := 4) w2' (by omega))
  have hlA := w0'.len (min len0 200) (by omega)
  have hlX := w2'.len (min len2 4) (by omega)
  have hm200 : min len0 200 ≤ 200 := by omega
  have hl4 : min len2 4 ≤ 4 := by omega
  clear w0' w2'
  generalize min len0 200 = m at *
  generalize min len2 4 = l at *
  generalize z0.take m = A at *
  generalize z2.take l = X at *
  go_wp2
  go_loop [8, 9] (fun bs ks => ∃ k : Nat, k ≤ l ∧ ks = .int .i64 k ∧ bs = .bool ((X.take k).any (· != 0))) (fun _ ks => l - (intOf ks).toNat)
  case atStart => exact ⟨0, by omega, rfl, by simp⟩
  case round =>
    obtain ⟨k, hk, rfl, rfl⟩ := hrel
    by_cases hlt : k < l
    · obtain ⟨bx, ox, rfl, hbx, HCx⟩ := (unhide HX).at (by omega) (Below.refl _ _)
      have hcx := HCx k (by omega)
      have HN := hide (any_next X k (by omega))
      clear HCx
      generalize X.getD k 0 = x at *
      cases hb : (X.take k).any (· != 0) with
      | true =>
        rw [hb] at HN
        go_wp2
        go_round
        case rel => exact ⟨k + 1, by omega, by go_num, by rw [unhide HN]; rfl⟩
        case measure => simp [intOf]; omega
      | false =>
        rw [hb] at HN
        by_cases hx0 : x = 0
        · go_wp2
          go_round
          case rel => exact ⟨k + 1, by omega, by go_num, by rw [unhide HN]; simp [hx0]⟩
          case measure => simp [intOf]; omega
        · go_wp2
          go_round
          case rel => exact ⟨k + 1, by omega, by go_num, by rw [unhide HN]; simp⟩
          case measure => simp [intOf]; omega
    · obtain rfl : k = l := by omega
      rw [List.take_of_length_le (by omega)]
      by_cases h0 : a1 < 0
      · go_wp2
        go_ret
        exact ⟨rfl, hbel1⟩
      obtain ⟨t, rfl⟩ := Int.eq_ofNat_of_zero_le (show 0 ≤ a1 by omega)
      by_cases h1 : (m : Int) - k < t
      · go_wp2
        go_ret
        exact ⟨rfl, hbel1⟩
      cases hb : X.any (· != 0) with
      | false =>
        go_wp2
        go_ret
        exact ⟨rfl, hbel1⟩
      | true =>
        have hk0 : 0 < k := by
          rcases Nat.eq_zero_or_pos X.length with h | h
          · rw [List.eq_nil_of_length_eq_zero h] at hb; simp at hb
          · omega
        have HD := hide (burstN_sum A t X (by omega) (unhide HX).1 (by omega) hb)
        rw [hlX] at HD
        have HBY := hide (burstN_byt A t X (unhide HA).1 (unhide HX).1)
        clear hb
        go_wp2_with (at_builtin; refine wpList_append_bts _ rfl _ _ rfl _ _ _ _ rfl (World.ownsRow_nil _ _ _ _) _ _ rfl (unhide HA) (by omega) (Nat.le_refl _) ?_)
        intro v1 W2 hown1 hgrow1
        have hb2 : Below W1.heap.size W1 W2 := (Below.refl _ _).grown hgrow1 (Nat.le_refl _) (fun k hk => by simp [Value.ownBlock] at hk)
        obtain ⟨g, gc, rfl, hgb, hgc1, hgc2, hO⟩ := OwnP.made hown1 hlA (by omega)
        clear hown1 hgrow1
        have HO := hide hO
        clear hO
        go_wp2
        go_loopw [11] (fun js wr => ∃ j : Nat, j ≤ k ∧ js = .int .i64 j ∧ OwnP wr g (burstN A t X j) ∧ Below W1.heap.size W1 wr) (fun js _ => k - (intOf js).toNat)
        case atStart => exact ⟨0, by omega, rfl, unhide HO, hb2⟩
        case round =>
          obtain ⟨j, hj, rfl, hOj, hbj⟩ := hrel
          clear hb2 HO
          by_cases hjl : j < k
          · obtain ⟨bx, ox, rfl, hbx, HCx⟩ := (unhide HX).at (by omega) hbj
            have hcx := HCx j (by omega)
            have hcd := hOj.cell (t + j) (by rw [burstN_length]; omega)
            rw [burstN_next] at hcd
            have hfd := hOj.frozen (t + j)
            have HS := hide (hOj.set (t + j) (((A.getD (t + j) 0).toNat ^^^ (X.getD j 0).toNat : Nat) : Int))
            have hra := byt_getD (unhide HA).1 (t + j) (by omega)
            have hrx := byt_getD (unhide HX).1 j (by omega)
            have HS2 : Hid (∀ wx : World, OwnP wx g ((burstN A t X j).set (t + j) (((A.getD (t + j) 0).toNat ^^^ (X.getD j 0).toNat : Nat) : Int)) → OwnP wx g (burstN A t X (j + 1))) := fun _ h => h
            clear HCx hOj
            generalize A.getD (t + j) 0 = p at *
            generalize X.getD j 0 = q at *
            obtain ⟨pn, rfl⟩ := Int.eq_ofNat_of_zero_le hra.1
            obtain ⟨qn, rfl⟩ := Int.eq_ofNat_of_zero_le hrx.1
            have hx := u8_xor_nat pn qn (by omega) (by omega)
            simp only [Int.toNat_natCast] at HS HS2
            generalize pn ^^^ qn = r at *
            clear hra hrx
            go_wp2_with fail
            go_region
            go_wp2
            go_roundw
            case rel => exact ⟨j + 1, by omega, by go_num, unhide HS2 _ (unhide HS), (hbj.setCell (by exact hgb) _).drew⟩
            case measure => simp [intOf]; omega
          · obtain rfl : j = k := by omega
            have hBA := (unhide HA).below hbj (Nat.le_refl _)
            have hBD := hOj.bts (cap := gc) (unhide HBY j) (by rw [burstN_length]; omega) (by rw [burstN_length]; omega) hgc2
            rw [burstN_length, hlA] at hBD
            have htj := ht.of hbj
            have hbw : Below w.heap.size w wr := hbel1.trans (hbj.mono hbel1.size)
            have hne : (((sumM A : Nat) : Int) != ((sumM (burstN A t X j) : Nat) : Int)) = true := by
              have := unhide HD
              simp only [bne_iff_ne, ne_eq]
              omega
            clear hOj hbj HD HBY HA HX
            go_wp2_with fail
            refine (sum_any _ _ _ htj hBA).mono ?_
            rintro e W3 ⟨rfl, rfl⟩
            go_wp2_with fail
            refine (sum_any _ _ _ htj hBD).mono ?_
            rintro e W3 ⟨rfl, rfl⟩
            generalize sumM A = sA at *
            generalize sumM (burstN A t X j) = sD at *
            go_wp2
            go_ret
            exact ⟨rfl, hbw⟩
end Go.Proofs.YtjnempfjoebojaaDoor

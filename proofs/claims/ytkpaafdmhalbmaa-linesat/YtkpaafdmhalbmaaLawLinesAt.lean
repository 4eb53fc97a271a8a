/-
  LinesAt.
-/
import Derived.Test.YtkpaafdmhalbmaaLinBegun
import Derived.Test.YtkpaafdmhalbmaaModIx
namespace Go.Proofs.Ytkpaafdmhalbmaa
open Go.RowKit
theorem st_x {t : ByteArray} : stK (t ++ ⟨#[120]⟩) (t ++ ⟨#[120]⟩).size = stK t t.size ∧ (t ++ ⟨#[120]⟩).size = t.size + 1 := by
  have hsz : (t ++ ⟨#[120]⟩).size = t.size + 1 := by rw [ByteArray.size_append]; rfl
  have hx : byteAt (t ++ ⟨#[120]⟩) t.size = 120 := by
    have := byteAt_right t ⟨#[120]⟩ 0
    rw [Nat.add_zero] at this
    rw [this]; rfl
  refine ⟨?_, hsz⟩
  rw [hsz, stK_no (by rw [hx]; decide)]
  exact (stK_congr t.size (fun i hi => byteAt_left _ _ _ hi)).1
theorem st_nl {t : ByteArray} : stK (t ++ ⟨#[10]⟩) (t ++ ⟨#[10]⟩).size = stK t t.size ++ [((t ++ ⟨#[10]⟩).size : Int)] ∧ (t ++ ⟨#[10]⟩).size = t.size + 1 := by
  have hsz : (t ++ ⟨#[10]⟩).size = t.size + 1 := by rw [ByteArray.size_append]; rfl
  have hx : byteAt (t ++ ⟨#[10]⟩) t.size = 10 := by
    have := byteAt_right t ⟨#[10]⟩ 0
    rw [Nat.add_zero] at this
    rw [this]; rfl
  refine ⟨?_, hsz⟩
  rw [hsz, stK_nl hx, (stK_congr t.size (fun i hi => byteAt_left _ _ _ hi)).1]
  rfl
set_option maxHeartbeats 4000000 in
set_option maxRecDepth 100000 in
theorem linesAt_walk (a0 : Option Addr) (len0 cap0 : Nat) (z : Nat → Int) (a1 a2 : Int) (w : World) (hl : len0 ≤ 9223372036854775807)
    (hz : ∀ i, i < len0 → ∃ b off, a0 = some ⟨b, off, none⟩ ∧ b < w.heap.size ∧ w.cell? ⟨b, off + i, none⟩ = some (.int .i64 (z i)))
    (w1 : -9223372036854775808 ≤ a1 ∧ a1 ≤ 9223372036854775807) (w2 : -9223372036854775808 ≤ a2 ∧ a2 ≤ 9223372036854775807) :
    Calls Try.prog 6 #[.slice a0 len0 cap0, .int .i64 a1, .int .i64 a2] w fun e w' => e = .returned (.bool true) ∧ Below w.heap.size w w' := by
  have HB := hide (linesbegun_any w)
  replace hz := hide hz
  go_enter Try.func6, Try.ntmps6
  go_wp2_with fail
  refine (unhide HB).mono ?_
  rintro e W0 ⟨rfl, hb0⟩
  have hw0 := hb0.size
  clear HB
  go_wp2
  go_loopw [8, 9, 10] (fun ss ns vs wr => ∃ (n : Nat) (s : ByteArray) (A : List Int), n ≤ len0 ∧ n ≤ 8 ∧ ss = .string s ∧ ns = .int .i64 n ∧ OwnI wr W0.heap.size vs A ∧ A.length = n ∧ stK s s.size = A ++ [(s.size : Int)] ∧ s.size ≤ 10 * n ∧ Below W0.heap.size W0 wr) (fun _ ns _ _ => 8 - (intOf ns).toNat)
  case atStart => exact ⟨0, ⟨#[]⟩, [], by omega, by omega, rfl, rfl, ownI_nil _ _, rfl, rfl, by decide, Below.refl _ _⟩
  case round =>
    obtain ⟨n, s, A, hn1, hn2, rfl, rfl, hown, hA, hst, hsz, hb⟩ := hrel
    have hsb := hb.size
    by_cases hc : n < len0 ∧ n < 8
    · obtain ⟨hc1, hc2⟩ := hc
      obtain ⟨b, off, rfl, hbl, hcell⟩ := unhide hz n hc1
      obtain ⟨j, hj1, hj2⟩ := mod_ix (z n) 9 (by omega) (by omega)
      go_wp2_with (at_builtin; refine wpList_append_int wr rfl _ _ rfl W0.heap.size _ A hown rfl (s.size : Int) hsb (by omega) rfl ?_)
      intro v' W1 hown1 hb1
      rw [← hst] at hown1
      have hb1' : Below w.heap.size w W1 := hb0.trans ((hb.trans hb1).mono hw0)
      rw [← hb1'.cell (by exact hbl)] at hcell
      replace hb1 := hb.trans hb1
      clear hb hown hb1'
      go_wp2
      go_loopw [8, 11] (fun ss ks wr => ∃ (k : Nat) (t : ByteArray), k ≤ j ∧ ss = .string t ∧ ks = .int .i64 k ∧ t.size = s.size + k ∧ stK t t.size = stK s s.size ∧ W1 = wr) (fun _ ks _ => j - (intOf ks).toNat)
      case atStart => exact ⟨0, s, by omega, rfl, rfl, by omega, rfl, rfl⟩
      case round =>
        obtain ⟨k, t, hk, rfl, rfl, htz, hts, rfl⟩ := hrel
        by_cases hkj : k < j
        · obtain ⟨hx1, hx2⟩ := st_x (t := t)
          replace hx1 := hide (hx1.trans hts)
          replace hx2 := hide hx2
          go_wp2
          go_roundw
          case rel => exact ⟨k + 1, _, by omega, rfl, by go_num, by rw [unhide hx2]; omega, unhide hx1, by trivial⟩
          case measure => simp [intOf]; omega
        · obtain rfl : k = j := by omega
          obtain ⟨hx1, hx2⟩ := st_nl (t := t)
          rw [hts] at hx1
          replace hx1 := hide hx1
          replace hx2 := hide hx2
          have hlen : (stK s s.size).length = n + 1 := by rw [hst]; simp [hA]
          clear hst hts
          go_wp2
          go_roundw
          case rel => exact ⟨n + 1, _, stK s s.size, by omega, by omega, rfl, by go_num, hown1, hlen, unhide hx1, by rw [unhide hx2]; omega, hb1⟩
          case measure => simp [intOf]; omega
    · have hcz : ((n : Int) < len0 ∧ ¬ (n : Int) < 8) ∨ ¬ (n : Int) < len0 := by omega
      have hlen : (stK s s.size).length = n + 1 := by rw [hst]; simp [hA]
      have hN : lnK s s.size = n + 1 := hlen
      have HN0 := hide (fun w => at_none s 0 1 w (by omega) (by omega))
      have HN1 := hide (fun w => at_off s 0 0 w (by omega) (by omega) (by omega) (by omega))
      have HN2 := hide (fun w => at_none s ((n : Int) + 2) 1 w (by omega) (by omega))
      clear hc hn1
      rcases hcz with ⟨hcz, hcy⟩ | hcz
      all_goals
        go_wp2_with (at_builtin; refine wpList_append_int wr rfl _ _ rfl W0.heap.size _ A hown rfl (s.size : Int) hsb (by omega) rfl ?_)
        intro v' W1 hown1 hb1
        rw [← hst] at hown1
        replace hb1 := hb0.trans ((hb.trans hb1).mono hw0)
        clear hb hown hsb hst
        obtain ⟨b, off, cap, rfl, hc1, hc2, hc3, hc4⟩ := hown1.lst (by omega)
        have hcell : ∀ j, j < n + 1 → W1.cell? ⟨b, off + j, none⟩ = some (.int .i64 (frK s j)) := fun j hj => by
          rw [hc4 j (by rw [List.length_map]; omega)]
          have : j < (stK s s.size).length := by omega
          simp [frK, List.getD, this]
        rw [List.length_map, hlen] at hc1 ⊢
        clear hc4 hown1 hlen
        by_cases hout : a1 < 1 ∨ (n : Int) + 1 < a1 ∨ a2 < 1 ∨ 20 < a2
        · clear hcell
          by_cases o1 : a1 < 1
          · go_wp2_with fail
            refine (unhide HN0 _).mono ?_
            rintro e W2 ⟨rfl, hb2⟩
            go_wp2_with fail
            refine (unhide HN1 _).mono ?_
            rintro e W3 ⟨rfl, hb3⟩
            go_wp2_with fail
            refine (unhide HN2 _).mono ?_
            rintro e W4 ⟨rfl, hb4⟩
            go_wp2
            go_ret
            exact ⟨rfl, below3 (below3 (below3 hb1 hb2) hb3) hb4⟩
          · by_cases o2 : (n : Int) + 1 < a1
            · go_wp2_with fail
              refine (unhide HN0 _).mono ?_
              rintro e W2 ⟨rfl, hb2⟩
              go_wp2_with fail
              refine (unhide HN1 _).mono ?_
              rintro e W3 ⟨rfl, hb3⟩
              go_wp2_with fail
              refine (unhide HN2 _).mono ?_
              rintro e W4 ⟨rfl, hb4⟩
              go_wp2
              go_ret
              exact ⟨rfl, below3 (below3 (below3 hb1 hb2) hb3) hb4⟩
            · by_cases o3 : a2 < 1
              · go_wp2_with fail
                refine (unhide HN0 _).mono ?_
                rintro e W2 ⟨rfl, hb2⟩
                go_wp2_with fail
                refine (unhide HN1 _).mono ?_
                rintro e W3 ⟨rfl, hb3⟩
                go_wp2_with fail
                refine (unhide HN2 _).mono ?_
                rintro e W4 ⟨rfl, hb4⟩
                go_wp2
                go_ret
                exact ⟨rfl, below3 (below3 (below3 hb1 hb2) hb3) hb4⟩
              · have o4 : 20 < a2 := by omega
                go_wp2_with fail
                refine (unhide HN0 _).mono ?_
                rintro e W2 ⟨rfl, hb2⟩
                go_wp2_with fail
                refine (unhide HN1 _).mono ?_
                rintro e W3 ⟨rfl, hb3⟩
                go_wp2_with fail
                refine (unhide HN2 _).mono ?_
                rintro e W4 ⟨rfl, hb4⟩
                go_wp2
                go_ret
                exact ⟨rfl, below3 (below3 (below3 hb1 hb2) hb3) hb4⟩
        · clear HN0 HN1 HN2
          obtain ⟨i, hi⟩ := Int.eq_ofNat_of_zero_le (show 0 ≤ a1 - 1 by omega)
          obtain rfl : a1 = (i : Int) + 1 := by omega
          obtain ⟨c, hc⟩ := Int.eq_ofNat_of_zero_le (show 0 ≤ a2 - 1 by omega)
          obtain rfl : a2 = (c : Int) + 1 := by omega
          have hil : i < lnK s s.size := by omega
          have hfb := frK_bounds s hil
          have hft := frK_toK s hil
          have hci := hcell i (by omega)
          have HL := hide (fun w => line_any s i w (by omega) hil)
          have hls : ((lineK s i).size : Int) = toK s i - frK s i := by rw [lineK, ByteArray.size_extract]; omega
          generalize lineK s i = l at *
          by_cases hlast : i + 1 ≤ n
          · have hcj := hcell (i + 1) (by omega)
            have htk := toK_nl (s := s) (i := i) (by omega)
            rw [show frK s (i + 1) = toK s i + 1 by omega] at hcj
            clear hcell
            by_cases hwant : frK s i + c ≤ toK s i
            · have HA := hide (fun w => at_any s i c w (by omega) hil hwant)
              clear htk
              generalize frK s i = x at *
              generalize toK s i = y at *
              go_wp2_with fail
              refine (unhide HL _).mono ?_
              rintro e W2 ⟨rfl, hb2⟩
              rw [← hb2.cell (by exact hc3)] at hci
              go_wp2_with fail
              refine (unhide HA _).mono ?_
              rintro e W3 ⟨rfl, hb3⟩
              rw [← hb3.cell (by exact Nat.lt_of_lt_of_le hc3 hb2.size)] at hci
              go_wp2
              go_ret
              exact ⟨rfl, below3 (below3 hb1 hb2) hb3⟩
            · have HA := hide (fun w => at_off s i ((c : Int) + 1) w (by omega) hil (by omega) (by omega))
              clear htk
              generalize frK s i = x at *
              generalize toK s i = y at *
              go_wp2_with fail
              refine (unhide HL _).mono ?_
              rintro e W2 ⟨rfl, hb2⟩
              rw [← hb2.cell (by exact hc3)] at hci
              go_wp2_with fail
              refine (unhide HA _).mono ?_
              rintro e W3 ⟨rfl, hb3⟩
              rw [← hb3.cell (by exact Nat.lt_of_lt_of_le hc3 hb2.size)] at hci
              go_wp2
              go_ret
              exact ⟨rfl, below3 (below3 hb1 hb2) hb3⟩
          · obtain rfl : i = n := by omega
            have htk := toK_last (s := s) (i := i) (by omega)
            clear hcell
            by_cases hwant : frK s i + c ≤ toK s i
            · have HA := hide (fun w => at_any s i c w (by omega) hil hwant)
              rw [htk] at hwant hls
              clear htk
              generalize frK s i = x at *
              go_wp2_with fail
              refine (unhide HL _).mono ?_
              rintro e W2 ⟨rfl, hb2⟩
              rw [← hb2.cell (by exact hc3)] at hci
              go_wp2_with fail
              refine (unhide HA _).mono ?_
              rintro e W3 ⟨rfl, hb3⟩
              rw [← hb3.cell (by exact Nat.lt_of_lt_of_le hc3 hb2.size)] at hci
              go_wp2
              go_ret
              exact ⟨rfl, below3 (below3 hb1 hb2) hb3⟩
            · have HA := hide (fun w => at_off s i ((c : Int) + 1) w (by omega) hil (by omega) (by omega))
              rw [htk] at hwant hls
              clear htk
              generalize frK s i = x at *
              go_wp2_with fail
              refine (unhide HL _).mono ?_
              rintro e W2 ⟨rfl, hb2⟩
              rw [← hb2.cell (by exact hc3)] at hci
              go_wp2_with fail
              refine (unhide HA _).mono ?_
              rintro e W3 ⟨rfl, hb3⟩
              rw [← hb3.cell (by exact Nat.lt_of_lt_of_le hc3 hb2.size)] at hci
              go_wp2
              go_ret
              exact ⟨rfl, below3 (below3 hb1 hb2) hb3⟩
theorem linesAt_shell (a0 : Option Addr) (len0 cap0 : Nat) (z0 : List Int) (a1 : Int) (a2 : Int) (w : World) (w0 : IsRow .i64 w a0 len0 cap0 z0) (w1 : (Lit.int .i64 a1).wf = true) (w2 : (Lit.int .i64 a2).wf = true) :
    Calls Try.prog 6 #[.slice a0 len0 cap0, .int .i64 a1, .int .i64 a2] w fun e w' => e = .returned (.bool true) ∧ Below w.heap.size w w' := by
  rcases w0 with ⟨rfl, rfl, rfl, rfl⟩ | ⟨x, rfl, hlc, hcm, hz, hcell, hwf⟩
  · exact linesAt_walk none 0 0 (fun _ => 0) a1 a2 w (by omega) (fun i hi => by omega) (bounds_i64 w1) (bounds_i64 w2)
  · unfold maxLen at hcm
    refine linesAt_walk (some x) len0 cap0 (fun i => z0.getD i 0) a1 a2 w (by omega) (fun i hi => ?_) (bounds_i64 w1) (bounds_i64 w2)
    obtain ⟨b, off, rfl, hc⟩ := ints_at hcell (by omega)
    exact ⟨b, off, rfl, World.block_lt_of_cell? w _ (hc 0 (by omega)), hc i (by omega)⟩
end Go.Proofs.Ytkpaafdmhalbmaa

/-
  LinesAll.
-/
import Derived.Test.YtkpaafdmhalbmaaCutS
import Derived.Test.YtkpaafdmhalbmaaLinBegun
namespace Go.Proofs.Ytkpaafdmhalbmaa
open Go.RowKit
/-- At a place that Of tells. -/
theorem at_back (s : ByteArray) (i : Nat) (w : World) (hs : s.size ≤ 100000) (hi : i ≤ s.size) :
    Calls Try.prog 11 #[.string s, .int .i64 (lnK s i), .int .i64 (i - lsK s i + 1)] w fun e w' => e = .returned (.int .i64 i) ∧ Below w.heap.size w w' := by
  obtain ⟨h1, h2, h3⟩ := of_line s hi
  have h4 := lsK_le s i
  have h5 := lnK_pos s i
  have := at_any s (lnK s i - 1) (i - lsK s i) w hs h1 (by omega)
  rw [h2] at this
  rw [show ((lnK s i - 1 : Nat) : Int) + 1 = lnK s i by omega, show ((i - lsK s i : Nat) : Int) = (i : Int) - lsK s i by omega, show (lsK s i : Int) + ((i : Int) - lsK s i) = i by omega] at this
  exact this
/-- Whatever line and column: there is no such place, or Of tells them of it. -/
theorem at_of (s : ByteArray) (n c : Int) (hs : s.size ≤ 100000) (hr : -9223372036854775808 ≤ c ∧ c ≤ 9223372036854775807) :
    (∀ w, Calls Try.prog 11 #[.string s, .int .i64 n, .int .i64 c] w fun e w' => e = .returned (.int .i64 (-1)) ∧ Below w.heap.size w w') ∨
    ∃ x : Nat, (∀ w, Calls Try.prog 11 #[.string s, .int .i64 n, .int .i64 c] w fun e w' => e = .returned (.int .i64 x) ∧ Below w.heap.size w w') ∧ x ≤ s.size ∧ (lnK s x : Int) = n ∧ (x : Int) - lsK s x + 1 = c := by
  by_cases hn : n < 1 ∨ lnK s s.size < n
  · exact .inl fun w => at_none s n c w hs hn
  · obtain ⟨i, hi⟩ := Int.eq_ofNat_of_zero_le (show 0 ≤ n - 1 by omega)
    obtain rfl : n = (i : Int) + 1 := by omega
    have hil : i < lnK s s.size := by omega
    by_cases hc : c < 1 ∨ toK s i < frK s i + (c - 1)
    · exact .inl fun w => at_off s i c w hs hil hr hc
    · obtain ⟨k, hk⟩ := Int.eq_ofNat_of_zero_le (show 0 ≤ c - 1 by omega)
      obtain rfl : c = (k : Int) + 1 := by omega
      have hb := frK_bounds s hil
      obtain ⟨x, hx⟩ := Int.eq_ofNat_of_zero_le (show 0 ≤ frK s i + k by omega)
      obtain ⟨h1, h2, h3⟩ := line_of s hil (x := x) (by omega) (by omega)
      refine .inr ⟨x, fun w => ?_, h3, by omega, by omega⟩
      rw [← hx]
      exact at_any s i k w hs hil (by omega)
set_option maxHeartbeats 4000000 in
set_option maxRecDepth 100000 in
theorem linesAll_walk (a0 : ByteArray) (a1 a2 a3 : Int) (w0 : a0.size ≤ maxLen) (w1 : -9223372036854775808 ≤ a1 ∧ a1 ≤ 9223372036854775807) (_w2 : -9223372036854775808 ≤ a2 ∧ a2 ≤ 9223372036854775807) (w3 : -9223372036854775808 ≤ a3 ∧ a3 ≤ 9223372036854775807) (w : World) :
    Calls Try.prog 3 #[.string a0, .int .i64 a1, .int .i64 a2, .int .i64 a3] w fun e w' => e = .returned (.bool true) ∧ Below w.heap.size w w' := by
  have hla := cutS_le a0 100
  have HC := hide (fun w => cut_any a0 100 w w0 (by omega))
  generalize cutS a0 100 = s at *
  have HB := hide (linesbegun_any w)
  have H1 := hide (fun w => starts_any s w (by omega))
  have HO := hide (fun k w (hk : k ≤ s.size) => of_any s k w (by omega) hk)
  have HA := hide (fun k w (hk : k ≤ s.size) => at_back s k w (by omega) hk)
  have HX := hide (at_of s a2 a3 (by omega) w3)
  have hl1 := lnK_le s s.size
  have hl0 := lnK_pos s s.size
  go_enter Try.func3, Try.ntmps3
  go_wp2_with fail
  refine (unhide HB).mono ?_
  rintro e W0 ⟨rfl, hb0⟩
  go_wp2_with fail
  refine (unhide HC _).mono ?_
  rintro e W1 ⟨rfl, rfl⟩
  go_wp2_with fail
  refine (unhide H1 _).mono ?_
  rintro e W2 ⟨v, rfl, hown, hb2⟩
  clear HB HC H1
  obtain ⟨b, off, cap, rfl, hc1, hc2, hc3, hc4⟩ := hown.lst (by show 0 < lnK s s.size; omega)
  rw [List.length_map] at hc1 hc4
  have hcell : ∀ j, j < lnK s s.size → W2.cell? ⟨b, off + j, none⟩ = some (.int .i64 (frK s j)) := fun j hj => by
    rw [hc4 j hj]
    have : j < (stK s s.size).length := hj
    simp [frK, List.getD, this]
  have hlen : (List.map (Value.int .i64) (stK s s.size)).length = lnK s s.size := by rw [List.length_map]; rfl
  rw [hlen]
  change lnK s s.size ≤ cap at hc1
  clear hc4 hlen hown
  have h00 := hcell 0 (by omega)
  rw [frK_zero, Nat.add_zero] at h00
  replace hb2 := below3 hb0 hb2
  clear hb0
  replace hcell := hide hcell
  have hmono := hide (fun k (hk : k ≤ s.size) => lnK_mono s hk)
  generalize hLn : lnK s s.size = Ln at *
  go_wp2
  go_loopw [11, 12, 13] (fun ks ns is wr => ∃ i : Nat, i ≤ s.size + 1 ∧ ks = .int .i64 (if i ≤ s.size then (lnK s i : Int) else (Ln : Int)) ∧ ns = .int .i64 (if i ≤ s.size then (i : Int) - lsK s i + 1 else (s.size : Int) - lsK s s.size + 2) ∧ is = .int .i64 i ∧ Below W2.heap.size W2 wr) (fun _ _ is _ => s.size + 1 - (intOf is).toNat)
  case atStart => exact ⟨0, by omega, by simp [lnK, stK], by simp [lsK], rfl, Below.refl _ _⟩
  case round =>
    obtain ⟨i, hi, rfl, rfl, rfl, hb⟩ := hrel
    by_cases hle : i ≤ s.size
    · rw [if_pos hle, if_pos hle]
      have HO1 := hide (fun w => unhide HO i w hle)
      have HA1 := hide (fun w => unhide HA i w hle)
      have hm := unhide hmono i hle
      have hlp := lnK_pos s i
      have hls := lsK_le s i
      clear h00
      go_wp2_with fail
      refine (unhide HO1 _).mono ?_
      rintro e W3 ⟨rfl, rfl⟩
      go_wp2_with fail
      refine (unhide HA1 _).mono ?_
      rintro e W4 ⟨rfl, hb4⟩
      have hbb := hb.trans (hb4.mono hb.size)
      clear HO1 HA1
      by_cases hlt : i < s.size
      · have hbyte : ∀ h, (s[i]'h).toNat = byteAt s i := fun h => byteAt_idx s i h
        by_cases h10 : byteAt s i = 10
        · have e1 := lnK_nl h10
          have e2 := lsK_nl h10
          have hm2 := unhide hmono (i + 1) (by omega)
          rw [e1] at hm2
          have hfr : frK s (lnK s i) = (i : Int) + 1 := by
            rw [frK, stK_same s (show i + 1 ≤ s.size by omega) (by rw [e1]; omega), stK_nl h10]
            simp [lnK, List.getD]
          have hcl := unhide hcell (lnK s i) (by omega)
          rw [hfr, ← hbb.cell (by exact hc3)] at hcl
          have hR1 : (if i + 1 ≤ s.size then (lnK s (i + 1) : Int) else (Ln : Int)) = (lnK s i : Int) + 1 := by rw [if_pos (by omega), e1]; omega
          have hR2 : (if i + 1 ≤ s.size then ((i + 1 : Nat) : Int) - lsK s (i + 1) + 1 else (s.size : Int) - lsK s s.size + 2) = 1 := by rw [if_pos (by omega), e2]; omega
          replace hR1 := hide hR1
          replace hR2 := hide hR2
          clear e1 e2 hfr
          generalize lnK s i = q at *
          go_wp2
          go_roundw
          case rel => exact ⟨i + 1, by omega, by rw [unhide hR1], by rw [unhide hR2], by go_num, hbb⟩
          case measure => simp [intOf]; omega
        · have e1 := lnK_no h10
          have e2 := lsK_no h10
          have hR1 : (if i + 1 ≤ s.size then (lnK s (i + 1) : Int) else (Ln : Int)) = (lnK s i : Int) := by rw [if_pos (by omega), e1]
          have hR2 : (if i + 1 ≤ s.size then ((i + 1 : Nat) : Int) - lsK s (i + 1) + 1 else (s.size : Int) - lsK s s.size + 2) = (i : Int) - lsK s i + 1 + 1 := by rw [if_pos (by omega), e2]; omega
          replace hR1 := hide hR1
          replace hR2 := hide hR2
          clear e1 e2
          generalize lnK s i = q at *
          generalize lsK s i = r at *
          go_wp2
          go_roundw
          case rel => exact ⟨i + 1, by omega, by rw [unhide hR1], by rw [unhide hR2], by go_num, hbb⟩
          case measure => simp [intOf]; omega
      · obtain rfl : i = s.size := by omega
        have hR1 : (if s.size + 1 ≤ s.size then (lnK s (s.size + 1) : Int) else (Ln : Int)) = (lnK s s.size : Int) := by rw [if_neg (by omega), hLn]
        have hR2 : (if s.size + 1 ≤ s.size then ((s.size + 1 : Nat) : Int) - lsK s (s.size + 1) + 1 else (s.size : Int) - lsK s s.size + 2) = (s.size : Int) - lsK s s.size + 1 + 1 := by rw [if_neg (by omega)]; omega
        replace hR1 := hide hR1
        replace hR2 := hide hR2
        clear hLn
        generalize lnK s s.size = q at *
        go_wp2
        go_roundw
        case rel => exact ⟨s.size + 1, by omega, by rw [unhide hR1], by rw [unhide hR2], by go_num, hbb⟩
        case measure => simp [intOf]
    · obtain rfl : i = s.size + 1 := by omega
      rw [if_neg hle, if_neg hle]
      generalize (s.size : Int) - lsK s s.size + 2 = nn at *
      replace hb := hb2.trans (hb.mono hb2.size)
      clear h00 hcell hmono HA hb2
      have H2 : ∃ x y : Int, (∀ w, Calls Try.prog 10 #[.string s, .int .i64 a1] w fun e w' => e = .returned (.tuple #[.int .i64 x, .int .i64 y]) ∧ w' = w) ∧ ((a1 < 0 ∨ s.size < a1) → x = 0 ∧ y = 0) := by
        by_cases h : a1 < 0 ∨ s.size < a1
        · exact ⟨0, 0, fun w => of_none s a1 w (by omega) h, fun _ => ⟨rfl, rfl⟩⟩
        · obtain ⟨k, rfl⟩ := Int.eq_ofNat_of_zero_le (show 0 ≤ a1 by omega)
          exact ⟨_, _, fun w => unhide HO k w (by omega), fun h' => absurd h' h⟩
      obtain ⟨x, y, H2, hxy⟩ := H2
      replace H2 := hide H2
      go_wp2_with fail
      refine (unhide H2 _).mono ?_
      rintro e W3 ⟨rfl, rfl⟩
      clear H2
      rcases unhide HX with HN | ⟨z, HZ, hz1, hz2, hz3⟩
      · replace HN := hide HN
        clear HX HO
        by_cases h : a1 < 0
        · obtain ⟨rfl, rfl⟩ := hxy (.inl h)
          go_wp2_with fail
          refine (unhide HN _).mono ?_
          rintro e W4 ⟨rfl, hb4⟩
          go_wp2
          go_ret
          exact ⟨rfl, below3 hb hb4⟩
        · by_cases h' : s.size < a1
          · obtain ⟨rfl, rfl⟩ := hxy (.inr h')
            go_wp2_with fail
            refine (unhide HN _).mono ?_
            rintro e W4 ⟨rfl, hb4⟩
            go_wp2
            go_ret
            exact ⟨rfl, below3 hb hb4⟩
          · clear hxy
            go_wp2_with fail
            refine (unhide HN _).mono ?_
            rintro e W4 ⟨rfl, hb4⟩
            go_wp2
            go_ret
            exact ⟨rfl, below3 hb hb4⟩
      · have HZ2 := fun w => unhide HO z w hz1
        rw [hz2, hz3] at HZ2
        replace HZ := hide HZ
        replace HZ2 := hide HZ2
        clear HX HO hz2 hz3
        by_cases h : a1 < 0
        · obtain ⟨rfl, rfl⟩ := hxy (.inl h)
          go_wp2_with fail
          refine (unhide HZ _).mono ?_
          rintro e W4 ⟨rfl, hb4⟩
          go_wp2_with fail
          refine (unhide HZ2 _).mono ?_
          rintro e W5 ⟨rfl, rfl⟩
          go_wp2
          go_ret
          exact ⟨rfl, below3 hb hb4⟩
        · by_cases h' : s.size < a1
          · obtain ⟨rfl, rfl⟩ := hxy (.inr h')
            go_wp2_with fail
            refine (unhide HZ _).mono ?_
            rintro e W4 ⟨rfl, hb4⟩
            go_wp2_with fail
            refine (unhide HZ2 _).mono ?_
            rintro e W5 ⟨rfl, rfl⟩
            go_wp2
            go_ret
            exact ⟨rfl, below3 hb hb4⟩
          · clear hxy
            go_wp2_with fail
            refine (unhide HZ _).mono ?_
            rintro e W4 ⟨rfl, hb4⟩
            go_wp2_with fail
            refine (unhide HZ2 _).mono ?_
            rintro e W5 ⟨rfl, rfl⟩
            go_wp2
            go_ret
            exact ⟨rfl, below3 hb hb4⟩
theorem linesAll_shell (a0 : ByteArray) (a1 a2 a3 : Int) (w0 : a0.size ≤ maxLen) (w1 : (Lit.int .i64 a1).wf = true) (w2 : (Lit.int .i64 a2).wf = true) (w3 : (Lit.int .i64 a3).wf = true) (w : World) :
    Calls Try.prog 3 #[.string a0, .int .i64 a1, .int .i64 a2, .int .i64 a3] w fun e w' => e = .returned (.bool true) ∧ Below w.heap.size w w' :=
  linesAll_walk a0 a1 a2 a3 w0 (bounds_i64 w1) (bounds_i64 w2) (bounds_i64 w3) w
end Go.Proofs.Ytkpaafdmhalbmaa

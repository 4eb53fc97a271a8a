/-
  CrcMany's walk.
-/
import Derived.Test.YtjnempfjoebojaaDoorCrcRef
namespace Go.Proofs.YtjnempfjoebojaaDoor
open Go.RowKit
set_option maxHeartbeats 1000000 in
set_option maxRecDepth 100000 in
theorem crcMany_shell (a0 : Option Addr) (len0 cap0 : Nat) (z0 : List Int) (a1 : Option Addr) (len1 cap1 : Nat) (z1 : List Int) (w : World) (w0 : IsRow .u8 w a0 len0 cap0 z0) (w1 : IsRow .i64 w a1 len1 cap1 z1) (ht0 : Tab w) :
    Calls Tryd.prog 6 #[.slice a0 len0 cap0, .slice a1 len1 cap1] w fun e w' => e = .returned (.bool true) ∧ Below w.heap.size w w' := by
  go_enter Tryd.func6, Tryd.ntmps6
  go_wp2_with fail
  refine (crcbegun_any _ ht0).mono ?_
  rintro e W1 ⟨rfl, hbel1⟩
  have ht := ht0.of hbel1
  have w0' := w0.below hbel1
  have w1' := w1.below hbel1
  have hBa := short_bts (n := 300) w0' (by omega)
  clear ht0 w0 w1
  go_wp2_with fail
  refine (short_any a0 len0 cap0 z0 300 _ w0' (by omega)).mono ?_
  rintro e W1 ⟨rfl, rfl⟩
  have hla : (z0.take (min len0 300)).length ≤ 300 := by simp; omega
  have hlc : min len0 300 ≤ cap0 ∧ cap0 ≤ 9223372036854775807 := by
    rcases w0' with ⟨_, rfl, rfl, _⟩ | ⟨_, _, h1, h2, _⟩
    · omega
    · unfold maxLen at h2; omega
  have hle : (z0.take (min len0 300)).length = min len0 300 := by
    rcases w0' with ⟨_, rfl, rfl, rfl⟩ | ⟨_, _, h1, h2, h3, _⟩
    · simp
    · simp; omega
  clear w0'
  generalize min len0 300 = m0 at *
  generalize z0.take m0 = A at *
  have hlm : len1 ≤ 9223372036854775807 := by
    rcases w1' with ⟨_, rfl, _⟩ | ⟨_, _, h1, h2, _⟩
    · omega
    · unfold maxLen at h2; omega
  have HW := hide w1'
  have HB := hide hBa
  clear w1' hBa
  go_wp2
  go_loop [6, 7, 8] (fun ss ts ks => ∃ t k : Nat, t ≤ m0 ∧ k ≤ len1 ∧ ss = .int .u32 (sumM (A.take t) : Nat) ∧ ts = .int .i64 t ∧ ks = .int .i64 k) (fun _ _ k => len1 - (intOf k).toNat)
  case atStart => exact ⟨0, 0, by omega, by omega, by rw [List.take_zero]; rfl, rfl, rfl⟩
  case round =>
    obtain ⟨t, k, htm, hk, rfl, rfl, rfl⟩ := hrel
    by_cases hgo : k < len1 ∧ k < 40
    · obtain ⟨hk1, hk40⟩ := hgo
      obtain ⟨sb, so, y, rfl, hcy, hy0, hy1⟩ : ∃ sb so y, a1 = some ⟨sb, so, none⟩ ∧ W1.cell? ⟨sb, so + k, none⟩ = some (.int .i64 y) ∧ -9223372036854775808 ≤ y ∧ y ≤ 9223372036854775807 := by
        rcases unhide HW with ⟨_, rfl, _⟩ | ⟨x, rfl, h1, h2, h3, hcell, hwf⟩
        · omega
        · obtain ⟨b, off, rfl, hc⟩ := ints_at hcell (by omega)
          have hm := hwf (z1.getD k 0) (by
            have : z1.getD k 0 = z1[k]'(by omega) := by simp [List.getD, show k < z1.length by omega]
            rw [this]; exact List.getElem_mem _)
          exact ⟨b, off, _, rfl, hc k (by omega), (bounds_i64 hm).1, (bounds_i64 hm).2⟩
      clear HW
      obtain ⟨r, hr⟩ : ∃ r, y.tmod 40 = r := ⟨_, rfl⟩
      have hr1 : -40 < r ∧ r < 40 := by
        rw [← hr]
        rcases Int.le_total 0 y with h | h
        · rw [Int.tmod_eq_emod_of_nonneg h]; omega
        · have : y.tmod 40 = -((-y).tmod 40) := by rw [Int.neg_tmod, Int.neg_neg]
          rw [this, Int.tmod_eq_emod_of_nonneg (by omega)]; omega
      obtain ⟨hr0, hr1⟩ := hr1
      obtain ⟨g, hg⟩ := Int.eq_ofNat_of_zero_le (show 0 ≤ (r + 40) % 40 by omega)
      have hg40 : g < 40 := by omega
      obtain ⟨n, hn, hor⟩ : ∃ n : Nat, t + n ≤ m0 ∧ (((m0 : Int) - t ≤ g ∧ (m0 : Int) - t = n) ∨ (¬ (m0 : Int) - t ≤ g ∧ n = g)) := by
        by_cases h : (m0 : Int) - t ≤ g
        · exact ⟨m0 - t, by omega, .inl ⟨h, by omega⟩⟩
        · exact ⟨g, by omega, .inr ⟨h, rfl⟩⟩
      have HA := hide (List.take_add (l := A) (i := t) (j := n))
      have hBp := fun (h : t + n ≤ m0) => (unhide HB).pre hle (t + n) h
      have HBP := hide hBp
      clear hBp
      rcases hor with ⟨hmn, hmt⟩ | ⟨hmn, rfl⟩
      all_goals
        have hif : ¬ cap0 = t ∨ (cap0 - t = 0 ∧ n = 0 ∧ ∀ x y : Option Addr, (if cap0 = t then x else y) = x) := by
          by_cases hct : cap0 = t
          · exact .inr ⟨by omega, by omega, fun x y => if_pos hct⟩
          · exact .inl hct
        rcases hif with hct | ⟨hc0, hn0, hif⟩
      all_goals try have HN := hide hn0
      all_goals try clear hn0
      all_goals go_wp2_with fail
      all_goals refine (more_any _ _ ((A.drop t).take n) _ (sumM_lt _ (byt_take (unhide HB).1 t)) ht (by first | exact (unhide HB).sub hle t n (by omega) hct | (rw [unhide HN, List.take_zero]; exact bts_end _ _))).mono ?_
      all_goals rw [more_sum, ← unhide HA]
      all_goals rintro e W1 ⟨rfl, rfl⟩
      all_goals go_wp2_with fail
      all_goals refine (sum_any _ _ _ ht (unhide HBP hn)).mono ?_
      all_goals rintro e W1 ⟨rfl, rfl⟩
      all_goals go_wp2
      all_goals go_round
      all_goals try exact ⟨t + n, k + 1, by omega, by omega, rfl, by go_num, by go_num⟩
      all_goals try (simp [intOf]; omega)
    · have HD : Hid (A.take t ++ (A.drop t).take (m0 - t) = A) := by
        have e : (A.drop t).take (m0 - t) = A.drop t := List.take_of_length_le (by rw [List.length_drop]; omega)
        rw [e]
        exact List.take_append_drop t A
      have hif : ¬ cap0 = t ∨ (cap0 - t = 0 ∧ m0 - t = 0 ∧ ∀ x y : Option Addr, (if cap0 = t then x else y) = x) := by
        by_cases hct : cap0 = t
        · exact .inr ⟨by omega, by omega, fun x y => if_pos hct⟩
        · exact .inl hct
      have hgo' : ¬ k < len1 ∨ (k < len1 ∧ ¬ k < 40) := by omega
      clear HW hgo
      rcases hgo' with hk1 | ⟨hk1, hk40⟩
      all_goals rcases hif with hct | ⟨hc0, hn0, hif⟩
      all_goals try have HN := hide hn0
      all_goals try clear hn0
      all_goals go_wp2_with fail
      all_goals refine (more_any _ _ ((A.drop t).take (m0 - t)) _ (sumM_lt _ (byt_take (unhide HB).1 t)) ht (by first | exact (unhide HB).sub hle t (m0 - t) (by omega) hct | (rw [unhide HN, List.take_zero]; exact bts_end _ _))).mono ?_
      all_goals rw [more_sum, unhide HD]
      all_goals rintro e W1 ⟨rfl, rfl⟩
      all_goals go_wp2_with fail
      all_goals refine (sum_any _ _ _ ht (unhide HB)).mono ?_
      all_goals rintro e W1 ⟨rfl, rfl⟩
      all_goals go_wp2
      all_goals go_ret
      all_goals exact ⟨rfl, hbel1⟩
end Go.Proofs.YtjnempfjoebojaaDoor

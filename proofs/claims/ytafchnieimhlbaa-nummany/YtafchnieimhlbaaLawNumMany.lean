/-
  NumMany's walk.
-/
import Derived.Test.YtafchnieimhlbaaArg
namespace Go.Proofs.Ytafchnieimhlbaa
open Go.RowKit
/-- The bytes of some numbers, one behind the other. -/
def encs (l : List Int) : List Int := l.flatMap fun n => digs (zz n)
theorem encs_snoc (l : List Int) (n : Int) : encs (l ++ [n]) = encs l ++ digs (zz n) := by simp [encs]
theorem encs_cons (l : List Int) (n : Int) : encs (n :: l) = digs (zz n) ++ encs l := by simp [encs]
theorem encs_len : ∀ l : List Int, (encs l).length ≤ 10 * l.length
  | [] => by simp [encs]
  | n :: l => by
    have h1 := encs_len l
    have h2 := digs_len (zz n)
    rw [encs_cons]
    simp only [List.length_append, List.length_cons]
    omega
theorem take_snocD (zs : List Int) (k : Nat) (h : k < zs.length) : zs.take (k + 1) = zs.take k ++ [zs.getD k 0] := by
  rw [List.take_succ_eq_append_getElem h]
  simp [List.getD, h]
def Fits (zs : List Int) : Prop := ∀ n ∈ zs, -9223372036854775808 ≤ n ∧ n ≤ 9223372036854775807
theorem fits_wf {zs : List Int} (h : ∀ n ∈ zs, (Lit.int .i64 n).wf = true) : Fits zs := fun x hx => bounds_i64 (h x hx)
theorem fits_getD {zs : List Int} (h : Fits zs) (k : Nat) (hk : k < zs.length) : -9223372036854775808 ≤ zs.getD k 0 ∧ zs.getD k 0 ≤ 9223372036854775807 := by
  have := h (zs[k]) (List.getElem_mem hk)
  simpa [List.getD, hk] using this
set_option maxHeartbeats 1000000 in
set_option maxRecDepth 100000 in
theorem numMany_none (a : Option Addr) (cap : Nat) (w : World) :
    Calls Try.prog 6 #[.slice a 0 cap] w fun e w' => e = .returned (.bool true) ∧ Below w.heap.size w w' := by
  go_enter Try.func6, Try.ntmps6
  go_wp2_with (go_at_call 9; refine (begun_any _).mono ?_; rintro e w1 ⟨rfl, hbel⟩)
  refine wp_loop_rounds 1 ?_
  rw [rounds_succ]
  go_wp2
  refine wp_loop_rounds 1 ?_
  rw [rounds_succ]
  go_wp2
  go_ret
  exact ⟨rfl, hbel⟩
set_option maxHeartbeats 2000000 in
set_option maxRecDepth 100000 in
/-- The first m numbers, m at most 40. -/
theorem numMany_some (b off len cap m : Nat) (zs : List Int) (w : World) (hm : m = min len 40) (hm0 : 0 < m) (hzl : zs.length = m) (hcap : len ≤ cap) (hcap2 : cap ≤ 9223372036854775807) (hf : Fits zs) (hb : b < w.heap.size)
    (hc : ∀ i, i < m → w.cell? ⟨b, off + i, none⟩ = some (.int .i64 (zs.getD i 0))) :
    Calls Try.prog 6 #[.slice (some ⟨b, off, none⟩) len cap] w fun e w' => e = .returned (.bool true) ∧ Below w.heap.size w w' := by
  have HC := hide hc
  have HF := hide hf
  clear hc hf
  by_cases hlen : 40 < len
  · obtain rfl : m = 40 := by omega
    clear hm
    have hd : decide ((40 : Int) < (len : Int)) = true := by simp; omega
    go_enter Try.func6, Try.ntmps6
    go_wp2_with (go_at_call 9; refine (begun_any _).mono ?_; rintro e w1 ⟨rfl, hbel⟩)
    have hs1 := hbel.size
    go_loopw [4, 5] (fun v ks wr => ∃ k : Nat, k ≤ 40 ∧ ks = .int .i64 k ∧ Bts wr v (encs (zs.take k)) ∧ Below w1.heap.size w1 wr) (fun _ k _ => 40 - (intOf k).toNat)
    case atStart => exact ⟨0, by omega, rfl, by simpa [encs] using bts_nil w1, Below.refl _ _⟩
    case round =>
      obtain ⟨k, hk, rfl, hB, hbr⟩ := hrel
      have hw0 : w1.heap.size ≤ wr.heap.size := hbr.size
      by_cases hlt : k < 40
      · have hck : wr.cell? ⟨b, off + k, none⟩ = some (.int .i64 (zs.getD k 0)) := (hbr.cell (by show b < _; omega)).trans ((hbel.cell hb).trans (unhide HC k hlt))
        have hfk := fits_getD (unhide HF) k (by omega)
        have hts := take_snocD zs k (by omega)
        have hel := encs_len (zs.take k)
        have htk : (zs.take k).length ≤ k := List.length_take_le _ _
        generalize zs.getD k 0 = z at *
        have HT := hide hts
        clear hts
        go_wp2_with fail
        refine (put_any _ _ z _ hB (by omega) hfk.1 hfk.2).mono ?_
        rintro e w2 ⟨v', rfl, hown, hb2⟩
        have hB2 := Bts.ofOwn hown (byt_append hB.1 (digs_byt _ (zz_lt z hfk.1 hfk.2))) (by have := digs_len (zz z); simp; omega)
        rw [← encs_snoc, ← unhide HT] at hB2
        have hb3 : Below w1.heap.size w1 w2 := hbr.trans (hb2.mono hw0)
        clear hown hb2 hB hbr
        go_wp2
        go_roundw
        case rel => exact ⟨k + 1, by omega, by go_num, hB2, hb3⟩
        case measure => simp [intOf]; omega
      · have hck : ∀ i, i < 40 → wr.cell? ⟨b, off + i, none⟩ = some (.int .i64 (zs.getD i 0)) := fun i hi => (hbr.cell (by show b < _; omega)).trans ((hbel.cell hb).trans (unhide HC i hi))
        have HCK := hide hck
        have hbw : Below w.heap.size w wr := hbel.trans (hbr.mono hs1)
        rw [List.take_of_length_le (by omega)] at hB
        clear hck HC hbr
        go_wp2
        go_loop [4, 6] (fun v ks => ∃ k : Nat, k ≤ 40 ∧ ks = .int .i64 k ∧ Bts wr v (encs (zs.drop k))) (fun _ k => 40 - (intOf k).toNat)
        case atStart => exact ⟨0, by omega, rfl, hB⟩
        case round =>
          clear hB
          obtain ⟨j, hj, rfl, hB⟩ := hrel
          by_cases hlt2 : j < 40
          · have hck := unhide HCK j hlt2
            have hfk := fits_getD (unhide HF) j (by omega)
            have hdr := drop_getD zs j (by omega)
            rw [hdr, encs_cons] at hB
            generalize zs.getD j 0 = z at *
            have hdl := digs_len (zz z)
            have hgm := getM_digs (zz z) (encs (zs.drop (j + 1))) (zz_lt z hfk.1 hfk.2)
            rw [uz_zz] at hgm
            have hel := encs_len (zs.drop (j + 1))
            have hzd : (zs.drop (j + 1)).length ≤ 40 := by simp; omega
            obtain ⟨b', off', cp, rfl, hc1, hc2⟩ := bts_some hB (by simp; omega)
            have HGM := hide hgm
            have HD := hide hdr
            clear hgm hdr
            have hBd := hB.drop (by simp; omega) (digs (zz z)).length (by simp)
            rw [List.drop_left] at hBd
            generalize hdd : digs (zz z) = ds at *
            generalize hee : encs (zs.drop (j + 1)) = es at *
            have HDD := hide hdd
            have HEE := hide hee
            clear hdd hee
            simp only [List.length_append, Nat.add_sub_cancel_left] at hB hBd hc1 ⊢
            go_wp2_with fail
            refine (get_any _ _ _ hB).mono ?_
            rw [unhide HGM]
            rintro e w5 ⟨rfl, rfl⟩
            by_cases hcc : cp = ds.length
            · have hes : es.length = 0 := by omega
              have hes' : es = [] := List.eq_nil_of_length_eq_zero hes
              subst hcc
              go_wp2
              go_round
              case rel => exact ⟨j + 1, by omega, by go_num, by rw [unhide HEE, hes']; simpa using (bts_none_left (w := _) (b := b') (off := off') (cap := 0) (xs := []) 0 (by simp) (by omega))⟩
              case measure => simp [intOf]; omega
            · go_wp2
              go_round
              case rel => exact ⟨j + 1, by omega, by go_num, by rw [unhide HEE]; exact hBd⟩
              case measure => simp [intOf]; omega
          · have hjm : 40 ≤ j := by omega
            rw [List.drop_of_length_le (by omega)] at hB
            obtain ⟨ao, cp, rfl⟩ := hB.len
            go_wp2
            go_ret
            exact ⟨rfl, hbw⟩
  · obtain rfl : m = len := by omega
    clear hm
    have hd : decide ((40 : Int) < (m : Int)) = false := by simp; omega
    go_enter Try.func6, Try.ntmps6
    go_wp2_with (go_at_call 9; refine (begun_any _).mono ?_; rintro e w1 ⟨rfl, hbel⟩)
    have hs1 := hbel.size
    go_loopw [4, 5] (fun v ks wr => ∃ k : Nat, k ≤ m ∧ ks = .int .i64 k ∧ Bts wr v (encs (zs.take k)) ∧ Below w1.heap.size w1 wr) (fun _ k _ => m - (intOf k).toNat)
    case atStart => exact ⟨0, by omega, rfl, by simpa [encs] using bts_nil w1, Below.refl _ _⟩
    case round =>
      obtain ⟨k, hk, rfl, hB, hbr⟩ := hrel
      have hw0 : w1.heap.size ≤ wr.heap.size := hbr.size
      by_cases hlt : k < m
      · have hck : wr.cell? ⟨b, off + k, none⟩ = some (.int .i64 (zs.getD k 0)) := (hbr.cell (by show b < _; omega)).trans ((hbel.cell hb).trans (unhide HC k hlt))
        have hfk := fits_getD (unhide HF) k (by omega)
        have hts := take_snocD zs k (by omega)
        have hel := encs_len (zs.take k)
        have htk : (zs.take k).length ≤ k := List.length_take_le _ _
        generalize zs.getD k 0 = z at *
        have HT := hide hts
        clear hts
        go_wp2_with fail
        refine (put_any _ _ z _ hB (by omega) hfk.1 hfk.2).mono ?_
        rintro e w2 ⟨v', rfl, hown, hb2⟩
        have hB2 := Bts.ofOwn hown (byt_append hB.1 (digs_byt _ (zz_lt z hfk.1 hfk.2))) (by have := digs_len (zz z); simp; omega)
        rw [← encs_snoc, ← unhide HT] at hB2
        have hb3 : Below w1.heap.size w1 w2 := hbr.trans (hb2.mono hw0)
        clear hown hb2 hB hbr
        go_wp2
        go_roundw
        case rel => exact ⟨k + 1, by omega, by go_num, hB2, hb3⟩
        case measure => simp [intOf]; omega
      · have hck : ∀ i, i < m → wr.cell? ⟨b, off + i, none⟩ = some (.int .i64 (zs.getD i 0)) := fun i hi => (hbr.cell (by show b < _; omega)).trans ((hbel.cell hb).trans (unhide HC i hi))
        have HCK := hide hck
        have hbw : Below w.heap.size w wr := hbel.trans (hbr.mono hs1)
        rw [List.take_of_length_le (by omega)] at hB
        clear hck HC hbr
        go_wp2
        go_loop [4, 6] (fun v ks => ∃ k : Nat, k ≤ m ∧ ks = .int .i64 k ∧ Bts wr v (encs (zs.drop k))) (fun _ k => m - (intOf k).toNat)
        case atStart => exact ⟨0, by omega, rfl, hB⟩
        case round =>
          clear hB
          obtain ⟨j, hj, rfl, hB⟩ := hrel
          by_cases hlt2 : j < m
          · have hck := unhide HCK j hlt2
            have hfk := fits_getD (unhide HF) j (by omega)
            have hdr := drop_getD zs j (by omega)
            rw [hdr, encs_cons] at hB
            generalize zs.getD j 0 = z at *
            have hdl := digs_len (zz z)
            have hgm := getM_digs (zz z) (encs (zs.drop (j + 1))) (zz_lt z hfk.1 hfk.2)
            rw [uz_zz] at hgm
            have hel := encs_len (zs.drop (j + 1))
            have hzd : (zs.drop (j + 1)).length ≤ 40 := by simp; omega
            obtain ⟨b', off', cp, rfl, hc1, hc2⟩ := bts_some hB (by simp; omega)
            have HGM := hide hgm
            have HD := hide hdr
            clear hgm hdr
            have hBd := hB.drop (by simp; omega) (digs (zz z)).length (by simp)
            rw [List.drop_left] at hBd
            generalize hdd : digs (zz z) = ds at *
            generalize hee : encs (zs.drop (j + 1)) = es at *
            have HDD := hide hdd
            have HEE := hide hee
            clear hdd hee
            simp only [List.length_append, Nat.add_sub_cancel_left] at hB hBd hc1 ⊢
            go_wp2_with fail
            refine (get_any _ _ _ hB).mono ?_
            rw [unhide HGM]
            rintro e w5 ⟨rfl, rfl⟩
            by_cases hcc : cp = ds.length
            · have hes : es.length = 0 := by omega
              have hes' : es = [] := List.eq_nil_of_length_eq_zero hes
              subst hcc
              go_wp2
              go_round
              case rel => exact ⟨j + 1, by omega, by go_num, by rw [unhide HEE, hes']; simpa using (bts_none_left (w := _) (b := b') (off := off') (cap := 0) (xs := []) 0 (by simp) (by omega))⟩
              case measure => simp [intOf]; omega
            · go_wp2
              go_round
              case rel => exact ⟨j + 1, by omega, by go_num, by rw [unhide HEE]; exact hBd⟩
              case measure => simp [intOf]; omega
          · have hjm : m ≤ j := by omega
            rw [List.drop_of_length_le (by omega)] at hB
            obtain ⟨ao, cp, rfl⟩ := hB.len
            go_wp2
            go_ret
            exact ⟨rfl, hbw⟩
theorem numMany_shell (a0 : Option Addr) (len0 cap0 : Nat) (z0 : List Int) (w : World) (w0 : IsRow .i64 w a0 len0 cap0 z0) :
    Calls Try.prog 6 #[.slice a0 len0 cap0] w fun e w' => e = .returned (.bool true) ∧ Below w.heap.size w w' := by
  rcases w0 with ⟨rfl, rfl, rfl, rfl⟩ | ⟨x, rfl, hlc, hcm, hz, hcell, hwf⟩
  · exact numMany_none none 0 w
  · unfold maxLen at hcm
    rcases Nat.eq_zero_or_pos len0 with rfl | hp
    · exact numMany_none (some x) cap0 w
    · obtain ⟨b, off, rfl, hc⟩ := ints_at hcell (by omega)
      refine numMany_some b off len0 cap0 (min len0 40) (z0.take (min len0 40)) w rfl (by omega) (by simp; omega) hlc (by omega) (fun n hn => fits_wf hwf n (List.mem_of_mem_take hn)) (World.block_lt_of_cell? w _ (hc 0 (by omega))) fun i hi => ?_
      rw [getD_take _ _ _ hi]
      exact hc i (by omega)
end Go.Proofs.Ytafchnieimhlbaa

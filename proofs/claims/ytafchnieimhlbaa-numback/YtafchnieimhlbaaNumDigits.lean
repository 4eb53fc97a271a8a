/-
  The walks of package num's writing, first part: digits, slices.Grow at a nil slice, slices.Concat.
-/
import Derived.Test.YtafchnieimhlbaaNumGet
import Derived.Lib.AppendZeros
import Derived.Laws.AppendOwnNone
namespace Go.Proofs.Ytafchnieimhlbaa
open Go.RowKit
theorem Try.info5 : (Try.prog.info? 5).map (fun i => (i.zero, i.size, i.bytes)) = some (some (.int .u8 0), 1, 1) := by kernel_rfl

set_option maxHeartbeats 400000 in
set_option maxRecDepth 100000 in
theorem digits_any (n : Int) (w : World) (h0 : -9223372036854775808 ≤ n) (h1 : n ≤ 9223372036854775807) :
    Calls Try.prog 21 #[.int .i64 n] w fun e w' => ∃ v, e = .returned v ∧ w'.ownsRow w.heap.size 5 1 v (digs (zz n)).length ((digs (zz n)).map (Value.int .u8)) ∧ Below w.heap.size w w' := by
  have hz := zz_lt n h0 h1
  obtain ⟨i0, hi, hz0, hz1, hz2⟩ := info_parts Try.info5
  go_enter Try.func21, Try.ntmps21
  go_wp2_with (go_at_call 24; refine (unsigned_any n _ h0 h1).mono ?_; rintro e w' ⟨rfl, rfl⟩)
  go_loopw [3, 4] (fun v us wr => ∃ (d : List Int) (u f : Nat), d.length + f = 9 ∧ us = .int .u64 u ∧ u < 2 * 128 ^ f ∧ d ++ digsF f u = digs (zz n) ∧ wr.ownsRow w'.heap.size 5 1 v d.length (d.map (Value.int .u8)) ∧ Below w'.heap.size w' wr) (fun _ us _ => (intOf us).toNat)
  case atStart => exact ⟨[], zz n, 9, by simp, rfl, by omega, rfl, World.ownsRow_nil _ _ _ _, Below.refl _ _⟩
  case round =>
    obtain ⟨d, u, f, hdf, rfl, hu, hd, hown, hbel⟩ := hrel
    have hw0 : w'.heap.size ≤ wr.heap.size := hbel.size
    have hu64 : u < 18446744073709551616 := by
      have h9 : f ≤ 9 := by omega
      have := Nat.pow_le_pow_right (n := 128) (by omega) h9
      omega
    by_cases hlt : 128 ≤ u
    · obtain ⟨f', rfl⟩ : ∃ f', f = f' + 1 := by
        cases f with
        | zero => simp at hu; omega
        | succ f' => exact ⟨f', rfl⟩
      have hd' : (d ++ [((u : Int) % 128 + 128)]) ++ digsF f' (u / 128) = digs (zz n) := by
        rw [← hd]
        conv => rhs; unfold digsF
        rw [if_neg (by omega)]
        simp
      have hu' : u / 128 < 2 * 128 ^ f' := by rw [Nat.pow_succ] at hu; omega
      have HD := hide hd'
      clear hd hd' hu
      have hand := and127u64 (u : Int) (by omega) (by omega)
      have hor := u8_or128_right ((u : Int) % 128) (by omega) (by omega)
      go_wp2_with (at_builtin; refine wpList_append_own _ rfl _ _ 22 rfl w'.heap.size 5 i0 (.int .u8 0) 1 1 Try.underlying22 hi hz0 hz1 hz2 rfl (by decide) _ _ _ rfl (hown.alloc _) ⟨wr.heap.size, 0, none⟩ 1 1 [.int .u8 ((u : Int) % 128 + 128)] rfl rfl ?c1 ?c2 ?c3 ?c4 ?c5 ?_)
      case c1 =>
        intro j x hj
        match j, hj with
        | 0, hj => simp at hj; subst hj; simp [Addr.add]
      case c2 => intro x hx; simp at hx; subst hx; rfl
      case c3 => unfold maxLen; omega
      case c4 => omega
      case c5 => simp; omega
      intro v' w1 hown' hgrow _
      have hb' : Below w'.heap.size w' w1 := (hbel.alloc hw0 _).grown hgrow (by simp; omega) (fun k hk => (hown.lt k hk).1)
      have hown2 : w1.ownsRow w'.heap.size 5 1 v' (d ++ [((u : Int) % 128 + 128)]).length ((d ++ [((u : Int) % 128 + 128)]).map (Value.int .u8)) := by
        simpa using hown'
      clear hown' hgrow hown hbel
      go_wp2
      go_roundw
      case rel => exact ⟨d ++ [((u : Int) % 128 + 128)], u / 128, f', by simp; omega, by go_num, hu', unhide HD, hown2, hb'⟩
      case measure => simp [intOf]; omega
    · have hd' : d ++ [(u : Int)] = digs (zz n) := by
        rw [← hd]
        cases f with
        | zero => rfl
        | succ f' => unfold digsF; rw [if_pos (by omega)]
      have HD := hide hd'
      clear hd hd'
      go_wp2_with (at_builtin; refine wpList_append_own _ rfl _ _ 22 rfl w'.heap.size 5 i0 (.int .u8 0) 1 1 Try.underlying22 hi hz0 hz1 hz2 rfl (by decide) _ _ _ rfl (hown.alloc _) ⟨wr.heap.size, 0, none⟩ 1 1 [.int .u8 (u : Int)] rfl rfl ?d1 ?d2 ?d3 ?d4 ?d5 ?_)
      case d1 =>
        intro j x hj
        match j, hj with
        | 0, hj => simp at hj; subst hj; simp [Addr.add]
      case d2 => intro x hx; simp at hx; subst hx; rfl
      case d3 => unfold maxLen; omega
      case d4 => omega
      case d5 => simp; omega
      intro v' w1 hown' hgrow _
      have hb' : Below w'.heap.size w' w1 := (hbel.alloc hw0 _).grown hgrow (by simp; omega) (fun k hk => (hown.lt k hk).1)
      have hown2 : w1.ownsRow w'.heap.size 5 1 v' (d ++ [(u : Int)]).length ((d ++ [(u : Int)]).map (Value.int .u8)) := by
        simpa using hown'
      rw [unhide HD] at hown2
      clear hown' hgrow hown hbel
      go_wp2
      go_ret
      exact ⟨v', rfl, hown2, hb'⟩
set_option maxHeartbeats 400000 in
set_option maxRecDepth 100000 in
theorem grow_nil (n : Nat) (w : World) (hn : n ≤ 140737488355328) :
    Calls Try.prog 23 #[.slice none 0 0, .int .i64 n] w fun e w' => ∃ v, e = .returned v ∧ w'.ownsRow w.heap.size 5 1 v 0 [] ∧ Below w.heap.size w w' := by
  obtain ⟨i0, hi, hz0, hz1, hz2⟩ := info_parts Try.info5
  by_cases h0 : 0 < n
  · have hr : ∀ ty, (Builtin.append_ #[22, 3] ty #[.slice none 0 0, .int .i64 n]).run Try.prog w = _ := fun ty => Lib.run_append_nil_zeros w 22 3 ty 5 i0 (.int .u8 0) .i64 .i64 Try.underlying22 Try.underlying3 hi hz0 n h0 (by omega) (by omega) (by rw [hz2]; omega)
    have hg1 := grownCap_ge w n 0 5
    have hg2 := grownCap_le_maxLen w n 0 5 (by unfold maxLen; omega)
    generalize grownCap w n 0 5 = G at *
    unfold maxLen at hg2
    go_enter Try.func23, Try.ntmps23
    go_wp2_with (at_builtin; refine Lib.wpList_append_run _ rfl _ _ _ _ rfl _ _ rfl rfl _ _ (hr _) ?_)
    go_ret
    refine ⟨_, rfl, ⟨by simp, .inr ⟨w.heap.size, G, _, rfl, Nat.le_refl _, heap_alloc_new _ _, by omega, by unfold maxLen; omega, ?_, by simp⟩⟩, (Below.refl _ _).drew.alloc (Nat.le_refl _) _⟩
    simp [size_zeroCells]
    omega
  · obtain rfl : n = 0 := by omega
    go_enter Try.func23, Try.ntmps23
    go_wp2
    go_ret
    exact ⟨_, rfl, World.ownsRow_nil _ _ _ _, Below.refl _ _⟩

def tot (xss : List (List Int)) (k : Nat) : List Int := (xss.take k).flatten
theorem tot_succ (xss : List (List Int)) (k : Nat) (h : k < xss.length) : tot xss (k + 1) = tot xss k ++ xss.getD k [] := by
  unfold tot
  rw [List.take_succ_eq_append_getElem h, List.flatten_append]
  simp [List.getD, h]
theorem tot_all (xss : List (List Int)) (k : Nat) (h : xss.length ≤ k) : tot xss k = xss.flatten := by
  unfold tot
  rw [List.take_of_length_le h]
theorem tot_le (xss : List (List Int)) (k : Nat) : (tot xss k).length ≤ xss.flatten.length := by
  have : xss.flatten = tot xss k ++ (xss.drop k).flatten := by
    unfold tot
    rw [← List.flatten_append, List.take_append_drop]
  rw [this]; simp

set_option maxHeartbeats 800000 in
set_option maxRecDepth 100000 in
theorem concat_any (b off cap : Nat) (vs : List Value) (xss : List (List Int)) (w : World) (hlen : vs.length = xss.length)
    (hB : ∀ i, i < xss.length → Bts w (vs.getD i undef) (xss.getD i []))
    (hc : ∀ i, i < xss.length → w.cell? ⟨b, off + i, none⟩ = some (vs.getD i undef)) (hb : b < w.heap.size) (hvl : xss.length ≤ 4611686018427387904)
    (hsz : xss.flatten.length ≤ 140737488355328) :
    Calls Try.prog 20 #[.slice (some ⟨b, off, none⟩) xss.length cap] w fun e w' => ∃ v, e = .returned v ∧ w'.ownsRow w.heap.size 5 1 v xss.flatten.length (xss.flatten.map (Value.int .u8)) ∧ Below w.heap.size w w' := by
  obtain ⟨i0, hi, hz0, hz1, hz2⟩ := info_parts Try.info5
  have HB := hide hB
  have HC := hide hc
  clear hB hc
  go_enter Try.func20, Try.ntmps20
  go_wp2
  go_loop [3, 11] (fun s ks => ∃ k : Nat, k ≤ xss.length ∧ ks = .int .i64 k ∧ s = .int .i64 (tot xss k).length) (fun _ k => xss.length - (intOf k).toNat)
  case atStart => exact ⟨0, by omega, rfl, rfl⟩
  case round =>
    obtain ⟨k, hk, rfl, rfl⟩ := hrel
    by_cases hlt : k < xss.length
    · have hck := unhide HC k hlt
      obtain ⟨ao, cp, hv⟩ := (unhide HB k hlt).len
      have htl := tot_le xss (k + 1)
      rw [tot_succ xss k hlt] at htl
      rw [hv] at hck
      have ht1 : ((tot xss (k+1)).length : Int) = (tot xss k).length + (xss.getD k []).length := by rw [tot_succ xss k hlt]; simp
      have HT := hide ht1
      have HV := hide hv
      clear hv ht1
      simp only [List.length_append] at htl
      generalize (xss.getD k []).length = m at *
      go_wp2
      go_round
      case rel => exact ⟨k + 1, by omega, by go_num, by rw [unhide HT]⟩
      case measure => simp [intOf]; omega
    · obtain rfl : k = xss.length := by omega
      have htl := tot_le xss xss.length
      go_wp2_with (go_at_call 23; refine (grow_nil (tot xss xss.length).length _ (by omega)).mono ?_; rintro e w1 ⟨v, rfl, hown, hbel⟩)
      go_loopw [6, 27] (fun v ks wr => ∃ k : Nat, k ≤ xss.length ∧ ks = .int .i64 k ∧ wr.ownsRow w.heap.size 5 1 v (tot xss k).length ((tot xss k).map (Value.int .u8)) ∧ Below w.heap.size w wr) (fun _ k _ => xss.length - (intOf k).toNat)
      case atStart => exact ⟨0, by omega, rfl, hown, hbel⟩
      case round =>
        clear hown hbel
        obtain ⟨k, hk, rfl, hown, hbel⟩ := hrel
        have hw0 : w.heap.size ≤ wr.heap.size := hbel.size
        by_cases hlt : k < xss.length
        · have htl' := tot_le xss (k + 1)
          have hts := tot_succ xss k hlt
          rw [hts] at htl'
          simp only [List.length_append] at htl'
          have hck : wr.cell? ⟨b, off + k, none⟩ = some (vs.getD k undef) := (hbel.cell (by exact hb)).trans (unhide HC k hlt)
          have hBk := (unhide HB k hlt).below hbel (Nat.le_refl _)
          generalize xss.getD k [] = xs at *
          have HS := hide hts
          clear hts
          rcases hBk with ⟨hx, hxl, ⟨rfl, ao, cp, hv, hao, hcp⟩ | ⟨b', off', cp, hv, hl0, hlc, hcp, hb', hcell⟩⟩
          · rw [hv] at hck
            cases ao with
            | none =>
              have hcp0 := hao rfl
              subst hcp0
              go_wp2_with (at_builtin; refine wpList_append_own_none rfl _ _ 22 rfl w.heap.size 5 i0 1 Try.underlying22 hi _ _ _ rfl hown rfl ?_)
              go_roundw
              case rel => exact ⟨k + 1, by omega, by go_num, by rw [unhide HS]; simpa using hown, hbel⟩
              case measure => simp [intOf]; omega
            | some a =>
              go_wp2_with (at_builtin; refine wpList_append_own _ rfl _ _ 22 rfl w.heap.size 5 i0 (.int .u8 0) 1 1 Try.underlying22 hi hz0 hz1 hz2 rfl (by decide) _ _ _ rfl hown a 0 cp [] rfl rfl ?c1 ?c2 ?c3 ?c4 ?c5 ?_)
              case c1 => intro j x hj; simp at hj
              case c2 => intro x hx; simp at hx
              case c3 => unfold maxLen; omega
              case c4 => omega
              case c5 => omega
              intro v' w1 hown' hgrow _
              have hb'' : Below w.heap.size w w1 := hbel.grown hgrow hw0 (fun k hk => (hown.lt k hk).1)
              clear hgrow hown hbel
              go_wp2
              go_roundw
              case rel => exact ⟨k + 1, by omega, by go_num, by rw [unhide HS]; simpa using hown', hb''⟩
              case measure => simp [intOf]; omega
          · rw [hv] at hck
            have HC2 := hide hcell
            clear hcell
            go_wp2_with (at_builtin; refine wpList_append_own _ rfl _ _ 22 rfl w.heap.size 5 i0 (.int .u8 0) 1 1 Try.underlying22 hi hz0 hz1 hz2 rfl (by decide) _ _ _ rfl hown ⟨b', off', none⟩ xs.length cp (xs.map (Value.int .u8)) rfl (by simp) ?e1 ?e2 ?e3 ?e4 ?e5 ?_)
            case e1 => exact news_of (unhide HC2)
            case e2 => exact one_map xs
            case e3 => unfold maxLen; omega
            case e4 => omega
            case e5 => omega
            intro v' w1 hown' hgrow _
            have hb'' : Below w.heap.size w w1 := hbel.grown hgrow hw0 (fun k hk => (hown.lt k hk).1)
            clear hgrow hown hbel
            go_wp2
            go_roundw
            case rel => exact ⟨k + 1, by omega, by go_num, by rw [unhide HS]; simpa using hown', hb''⟩
            case measure => simp [intOf]; omega
        · obtain rfl : k = xss.length := by omega
          rw [tot_all xss _ (Nat.le_refl _)] at hown
          go_wp2
          go_ret
          exact ⟨_, rfl, hown, hbel⟩
end Go.Proofs.Ytafchnieimhlbaa

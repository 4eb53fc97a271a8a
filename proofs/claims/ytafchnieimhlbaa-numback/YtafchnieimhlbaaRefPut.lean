/-
  The walks of the reference's Put and PutText: the same bytes.
-/
import Derived.Test.YtafchnieimhlbaaLawNumSize
import Derived.Lib.AppendStr
namespace Go.Proofs.Ytafchnieimhlbaa
open Go.RowKit
set_option maxHeartbeats 1000000 in
set_option maxRecDepth 100000 in
theorem rput_any (n : Int) (w : World) (h0 : -9223372036854775808 ≤ n) (h1 : n ≤ 9223372036854775807) :
    Calls Try.prog 14 #[.int .i64 n] w fun e w' => ∃ v, e = .returned v ∧ w'.ownsRow w.heap.size 5 1 v (digs (zz n)).length ((digs (zz n)).map (Value.int .u8)) ∧ Below w.heap.size w w' := by
  have hz := zz_lt n h0 h1
  obtain ⟨i0, hi, hz0, hz1, hz2⟩ := info_parts Try.info5
  go_enter Try.func14, Try.ntmps14
  go_wp2
  all_goals
    go_loopw [3, 4] (fun us v wr => ∃ (d : List Int) (u f : Nat), d.length + f = 9 ∧ us = .int .u64 u ∧ u < 2 * 128 ^ f ∧ d ++ digsF f u = digs (zz n) ∧ wr.ownsRow w.heap.size 5 1 v d.length (d.map (Value.int .u8)) ∧ Below w.heap.size w wr) (fun us _ _ => (intOf us).toNat)
    case atStart =>
      first
      | exact ⟨[], zz n, 9, by simp, by rw [zz_neg_is n h0 (by assumption)], by omega, rfl, World.ownsRow_nil _ _ _ _, Below.refl _ _⟩
      | exact ⟨[], zz n, 9, by simp, by rw [zz_pos_is n h1 (by assumption)], by omega, rfl, World.ownsRow_nil _ _ _ _, Below.refl _ _⟩
    case round =>
      obtain ⟨d, u, f, hdf, rfl, hu, hd, hown, hbel⟩ := hrel
      have hw0 : w.heap.size ≤ wr.heap.size := hbel.size
      have hu64 : u < 18446744073709551616 := by
        have h9 : f ≤ 9 := by omega
        have := Nat.pow_le_pow_right (n := 128) (by omega) h9
        omega
      by_cases hlt : 128 ≤ u
      · obtain ⟨f', rfl⟩ : ∃ f', f = f' + 1 := by
          cases f with
          | zero => simp at hu; omega
          | succ f' => exact ⟨f', rfl⟩
        have hd' : (d ++ [((u : Int) % 128 + 128)]) ++ digsF f' (u / 128) = digs (zz n) := by
          rw [← hd]
          conv => rhs; unfold digsF
          rw [if_neg (by omega)]
          simp
        have hu' : u / 128 < 2 * 128 ^ f' := by rw [Nat.pow_succ] at hu; omega
        have HD := hide hd'
        clear hd hd' hu
        go_wp2_with (at_builtin; refine wpList_append_own _ rfl _ _ 22 rfl w.heap.size 5 i0 (.int .u8 0) 1 1 Try.underlying22 hi hz0 hz1 hz2 rfl (by decide) _ _ _ rfl (hown.alloc _) ⟨wr.heap.size, 0, none⟩ 1 1 [.int .u8 ((u : Int) % 128 + 128)] rfl rfl ?c1 ?c2 ?c3 ?c4 ?c5 ?_)
        case c1 =>
          intro j x hj
          match j, hj with
          | 0, hj => simp at hj; subst hj; simp [Addr.add]
        case c2 => intro x hx; simp at hx; subst hx; rfl
        case c3 => unfold maxLen; omega
        case c4 => omega
        case c5 => simp; omega
        intro v' w1 hown' hgrow _
        have hb' : Below w.heap.size w w1 := (hbel.alloc hw0 _).grown hgrow (by simp; omega) (fun k hk => (hown.lt k hk).1)
        have hown2 : w1.ownsRow w.heap.size 5 1 v' (d ++ [((u : Int) % 128 + 128)]).length ((d ++ [((u : Int) % 128 + 128)]).map (Value.int .u8)) := by
          simpa using hown'
        clear hown' hgrow hown hbel
        go_wp2
        go_roundw
        case rel => exact ⟨d ++ [((u : Int) % 128 + 128)], u / 128, f', by simp; omega, by go_num, hu', unhide HD, hown2, hb'⟩
        case measure => simp [intOf]; omega
      · have hd' : d ++ [(u : Int)] = digs (zz n) := by
          rw [← hd]
          cases f with
          | zero => rfl
          | succ f' => unfold digsF; rw [if_pos (by omega)]
        have HD := hide hd'
        clear hd hd'
        go_wp2_with (at_builtin; refine wpList_append_own _ rfl _ _ 22 rfl w.heap.size 5 i0 (.int .u8 0) 1 1 Try.underlying22 hi hz0 hz1 hz2 rfl (by decide) _ _ _ rfl (hown.alloc _) ⟨wr.heap.size, 0, none⟩ 1 1 [.int .u8 (u : Int)] rfl rfl ?d1 ?d2 ?d3 ?d4 ?d5 ?_)
        case d1 =>
          intro j x hj
          match j, hj with
          | 0, hj => simp at hj; subst hj; simp [Addr.add]
        case d2 => intro x hx; simp at hx; subst hx; rfl
        case d3 => unfold maxLen; omega
        case d4 => omega
        case d5 => simp; omega
        intro v' w1 hown' hgrow _
        have hb' : Below w.heap.size w w1 := (hbel.alloc hw0 _).grown hgrow (by simp; omega) (fun k hk => (hown.lt k hk).1)
        have hown2 : w1.ownsRow w.heap.size 5 1 v' (d ++ [(u : Int)]).length ((d ++ [(u : Int)]).map (Value.int .u8)) := by
          simpa using hown'
        rw [unhide HD] at hown2
        clear hown' hgrow hown hbel
        go_wp2
        go_ret
        exact ⟨v', rfl, hown2, hb'⟩
theorem strCells_bts (s : ByteArray) : Lib.strCells s = (bts s).map (Value.int .u8) := by
  unfold Lib.strCells bts
  rw [List.map_map]
  rfl
set_option maxHeartbeats 1000000 in
set_option maxRecDepth 100000 in
theorem rputText_any (s : ByteArray) (w : World) (hs : s.size ≤ 140737488351232) :
    Calls Try.prog 15 #[.string s] w fun e w' => ∃ v, e = .returned v ∧ w'.ownsRow w.heap.size 5 1 v (digs (zz s.size) ++ bts s).length ((digs (zz s.size) ++ bts s).map (Value.int .u8)) ∧ Below w.heap.size w w' := by
  obtain ⟨i0, hi, hz0, hz1, hz2⟩ := info_parts Try.info5
  have hdl := digs_len (zz s.size)
  have hbl := bts_length s
  have HBL := hide hbl
  clear hbl
  go_enter Try.func15, Try.ntmps15
  go_wp2_with fail
  refine (rput_any s.size _ (by omega) (by omega)).mono ?_
  rintro e w1 ⟨v1, rfl, hown1, hbel1⟩
  have hs1 := hbel1.size
  go_wp2_with (at_builtin; refine Lib.wpList_append_own_string _ rfl _ _ 22 9 rfl w.heap.size 5 i0 Try.underlying22 Try.underlying9 hi hz0 hz1 hz2 _ _ _ rfl hown1 s rfl ?c1 ?c2 hs1 ?_)
  case c1 => unfold maxLen; omega
  case c2 => omega
  intro v' w2 hown' hgrow _
  have hb' : Below w.heap.size w w2 := hbel1.grown hgrow hs1 (fun k hk => (hown1.lt k hk).1)
  have hown2 : w2.ownsRow w.heap.size 5 1 v' (digs (zz s.size) ++ bts s).length ((digs (zz s.size) ++ bts s).map (Value.int .u8)) := by
    rw [strCells_bts] at hown'
    rw [List.length_append, unhide HBL, List.map_append]
    exact hown'
  clear hown' hgrow hown1
  go_wp2
  go_ret
  exact ⟨v', rfl, hown2, hb'⟩
end Go.Proofs.Ytafchnieimhlbaa

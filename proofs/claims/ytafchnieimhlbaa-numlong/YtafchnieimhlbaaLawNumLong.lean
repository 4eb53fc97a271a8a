/-
  NumLong's walk.
-/
import Derived.Test.YtafchnieimhlbaaArg
import Derived.Test.YtafchnieimhlbaaRefText
namespace Go.Proofs.Ytafchnieimhlbaa
open Go.RowKit
theorem or128_range (x : Int) (h0 : 0 ≤ x) (h1 : x ≤ 255) : 0 ≤ bits BinOp.or IntKind.u8 x 128 ∧ bits BinOp.or IntKind.u8 x 128 ≤ 255 := by
  rw [u8_or x 128 h0 (by omega) (by omega) (by omega)]
  have : x.toNat ||| (128 : Int).toNat < 2 ^ 8 := Nat.or_lt_two_pow (by omega) (by decide)
  omega
theorem byt_rep (k : Nat) (x : Int) (h : 0 ≤ x ∧ x ≤ 255) : Byt (List.replicate k x) := fun y hy => by
  rw [(List.mem_replicate.1 hy).2]; exact h
theorem rep_snoc (k : Nat) (x : Int) : List.replicate (k + 1) x = List.replicate k x ++ [x] := List.replicate_succ'
set_option maxHeartbeats 1000000 in
set_option maxRecDepth 100000 in
theorem numLong_walk (n last fill : Int) (w : World) (hl : 0 ≤ last ∧ last ≤ 255) (hf : 0 ≤ fill ∧ fill ≤ 255) :
    Calls Try.prog 5 #[.int .i64 n, .int .u8 last, .int .u8 fill] w fun e w' => e = .returned (.bool true) ∧ Below w.heap.size w w' := by
  obtain ⟨i0, hi, hz0, hz1, hz2⟩ := info_parts Try.info5
  have hX := or128_range fill hf.1 hf.2
  generalize hXd : bits BinOp.or IntKind.u8 fill 128 = X at hX
  by_cases hn0 : n < 0
  · go_enter Try.func5, Try.ntmps5
    go_wp2_with (go_at_call 9; refine (begun_any _).mono ?_; rintro e w1 ⟨rfl, hbel⟩)
    go_ret
    exact ⟨rfl, hbel⟩
  by_cases hn1 : 14 < n
  · have hn0' : decide (n < 0) = false := by simpa using hn0
    go_enter Try.func5, Try.ntmps5
    go_wp2_with (go_at_call 9; refine (begun_any _).mono ?_; rintro e w1 ⟨rfl, hbel⟩)
    go_ret
    exact ⟨rfl, hbel⟩
  have hn0' : decide (n < 0) = false := by simpa using hn0
  have hn1' : decide (14 < n) = false := by simpa using hn1
  obtain ⟨m, rfl⟩ := Int.eq_ofNat_of_zero_le (show 0 ≤ n by omega)
  go_enter Try.func5, Try.ntmps5
  go_wp2_with (go_at_call 9; refine (begun_any _).mono ?_; rintro e w1 ⟨rfl, hbel⟩)
  have hs1 := hbel.size
  go_loopw [8, 9] (fun v ks wr => ∃ k : Nat, k ≤ m ∧ ks = .int .i64 k ∧ wr.ownsRow w1.heap.size 5 1 v k ((List.replicate k X).map (Value.int .u8)) ∧ Below w1.heap.size w1 wr) (fun _ k _ => m - (intOf k).toNat)
  case atStart => exact ⟨0, by omega, rfl, World.ownsRow_nil _ _ _ _, Below.refl _ _⟩
  case round =>
    obtain ⟨k, hk, rfl, hown, hbr⟩ := hrel
    have hw0 : w1.heap.size ≤ wr.heap.size := hbr.size
    by_cases hlt : k < m
    · go_wp2_with (at_builtin; refine wpList_append_own _ rfl _ _ 22 rfl w1.heap.size 5 i0 (.int .u8 0) 1 1 Try.underlying22 hi hz0 hz1 hz2 rfl (by decide) _ _ _ rfl (hown.alloc _) ⟨wr.heap.size, 0, none⟩ 1 1 [.int .u8 X] rfl rfl ?c1 ?c2 ?c3 ?c4 ?c5 ?_)
      case c1 =>
        intro j x hj
        match j, hj with
        | 0, hj => simp at hj; subst hj; simp [Addr.add]
      case c2 => intro x hx; simp at hx; subst hx; rfl
      case c3 => unfold maxLen; omega
      case c4 => omega
      case c5 => simp; omega
      intro v' w2 hown' hgrow _
      have hb' : Below w1.heap.size w1 w2 := (hbr.alloc hw0 _).grown hgrow (by simp; omega) (fun k hk => (hown.lt k hk).1)
      have hown2 : w2.ownsRow w1.heap.size 5 1 v' (k + 1) ((List.replicate (k + 1) X).map (Value.int .u8)) := by
        rw [rep_snoc]
        simpa using hown'
      clear hown' hgrow hown hbr
      go_wp2
      go_roundw
      case rel => exact ⟨k + 1, by omega, by go_num, hown2, hb'⟩
      case measure => simp [intOf]; omega
    · obtain rfl : k = m := by omega
      go_wp2_with (at_builtin; refine wpList_append_own _ rfl _ _ 22 rfl w1.heap.size 5 i0 (.int .u8 0) 1 1 Try.underlying22 hi hz0 hz1 hz2 rfl (by decide) _ _ _ rfl (hown.alloc _) ⟨wr.heap.size, 0, none⟩ 1 1 [.int .u8 last] rfl rfl ?d1 ?d2 ?d3 ?d4 ?d5 ?_)
      case d1 =>
        intro j x hj
        match j, hj with
        | 0, hj => simp at hj; subst hj; simp [Addr.add]
      case d2 => intro x hx; simp at hx; subst hx; rfl
      case d3 => unfold maxLen; omega
      case d4 => omega
      case d5 => simp; omega
      intro v' w2 hown' hgrow _
      have hb' : Below w1.heap.size w1 w2 := (hbr.alloc hw0 _).grown hgrow (by simp; omega) (fun k hk => (hown.lt k hk).1)
      have hown2 : w2.ownsRow w1.heap.size 5 1 v' (k + 1) ((List.replicate k X ++ [last]).map (Value.int .u8)) := by
        simpa using hown'
      have hB := Bts.ofOwn hown2 (byt_append (byt_rep k X hX) (by intro z hz; simp at hz; omega)) (by simp; omega)
      obtain ⟨ao, cp, hv'⟩ := own_shape hown2
      clear hown' hgrow hown hbr hown2
      subst hv'
      obtain ⟨x, y, z, hg⟩ : ∃ x y z, getM (List.replicate k X ++ [last]) = (x, y, z) := ⟨_, _, _, rfl⟩
      generalize List.replicate k X ++ [last] = xs at *
      have HG := hide hg
      clear hg
      go_wp2_with fail
      refine (get_any _ _ _ hB).mono ?_
      rw [unhide HG]
      rintro e w3 ⟨rfl, rfl⟩
      go_wp2_with fail
      refine (rget_any _ _ _ hB).mono ?_
      rw [unhide HG]
      rintro e w3 ⟨rfl, rfl⟩
      clear HG hB
      go_wp2
      go_ret
      exact ⟨rfl, hbel.trans (hb'.mono hs1)⟩
theorem numLong_shell (a0 a1 a2 : Int) (_w0 : (Lit.int .i64 a0).wf = true) (w1 : (Lit.int .u8 a1).wf = true) (w2 : (Lit.int .u8 a2).wf = true) (w : World) :
    Calls Try.prog 5 #[.int .i64 a0, .int .u8 a1, .int .u8 a2] w fun e w' => e = .returned (.bool true) ∧ Below w.heap.size w w' :=
  numLong_walk a0 a1 a2 w (bounds_u8 w1) (bounds_u8 w2)
end Go.Proofs.Ytafchnieimhlbaa

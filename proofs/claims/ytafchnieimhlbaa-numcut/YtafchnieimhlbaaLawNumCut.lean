/-
  NumCut's walk.
-/
import Derived.Test.YtafchnieimhlbaaArg
import Derived.Test.YtafchnieimhlbaaTextMath
namespace Go.Proofs.Ytafchnieimhlbaa
open Go.RowKit
set_option maxHeartbeats 1000000 in
set_option maxRecDepth 100000 in
theorem numCut_walk (n : Int) (s : ByteArray) (cut : Int) (w : World) (h0 : -9223372036854775808 ≤ n) (h1 : n ≤ 9223372036854775807) (hs : s.size ≤ maxLen) (hcut : cut ≤ 9223372036854775807) :
    Calls Try.prog 7 #[.int .i64 n, .string s, .int .i64 cut] w fun e w' => e = .returned (.bool true) ∧ Below w.heap.size w w' := by
  have hc100 := cutS_le s 100
  have hcall := fun w => cut_any s 100 w hs (by omega)
  have HCU := hide hcall
  clear hcall
  generalize cutS s 100 = t at *
  have hz := zz_lt n h0 h1
  have hdl := digs_len (zz n)
  have hdt := digs_len (zz t.size)
  have htl := bts_length t
  have hyl : 1 ≤ (digs (zz t.size) ++ bts t).length ∧ (digs (zz t.size) ++ bts t).length ≤ 200 := by simp; omega
  have HT := hide (fun k => getTextM_cut t (by omega) k)
  have HG := hide (fun k => getM_cut (zz n) k hz)
  go_enter Try.func7, Try.ntmps7
  go_wp2_with fail
  refine (begun_any _).mono ?_
  rintro e w1 ⟨rfl, hbel1⟩
  go_wp2_with fail
  refine (unhide HCU _).mono ?_
  rintro e w1' ⟨rfl, rfl⟩
  clear htl hdt
  go_wp2_with fail
  refine (put_nil n _ h0 h1).mono ?_
  rintro e w2 ⟨b, off, cap, rfl, hc1, hc2, hB, hbel2⟩
  go_wp2_with fail
  refine (putText_nil t _ (by omega)).mono ?_
  rintro e w3 ⟨b', off', cap', rfl, hc1', hc2', hB', hbel3⟩
  have hBb := hB.below hbel3 (Nat.le_refl _)
  have hbel : Below w.heap.size w w3 := (hbel1.trans (hbel2.mono hbel1.size)).trans (hbel3.mono (Nat.le_trans hbel1.size hbel2.size))
  clear hB hbel1 hbel2 hbel3 HCU
  generalize digs (zz t.size) ++ bts t = ys at *
  generalize digs (zz n) = xs at *
  by_cases hcut1 : cut < 1
  · go_wp2
    go_ret
    exact ⟨rfl, hbel⟩
  obtain ⟨c, rfl⟩ := Int.eq_ofNat_of_zero_le (show 0 ≤ cut by omega)
  by_cases hcx : c ≤ xs.length
  · go_wp2_with fail
    refine (get_any _ (xs.take (xs.length - c)) _ (hBb.take (by omega) _ (by omega))).mono ?_
    rw [unhide HG _ (by omega)]
    rintro e w4 ⟨rfl, rfl⟩
    by_cases hcy : c ≤ ys.length
    · go_wp2_with fail
      refine (getText_any _ (ys.take (ys.length - c)) _ (hB'.take (by omega) _ (by omega))).mono ?_
      rw [unhide HT _ (by omega)]
      rintro e w5 ⟨rfl, rfl⟩
      rw [show strOfNums [] = ⟨#[]⟩ from rfl]
      go_wp2
      go_ret
      exact ⟨rfl, hbel⟩
    · go_wp2
      go_ret
      exact ⟨rfl, hbel⟩
  · by_cases hcy : c ≤ ys.length
    · go_wp2_with fail
      refine (getText_any _ (ys.take (ys.length - c)) _ (hB'.take (by omega) _ (by omega))).mono ?_
      rw [unhide HT _ (by omega)]
      rintro e w5 ⟨rfl, rfl⟩
      rw [show strOfNums [] = ⟨#[]⟩ from rfl]
      go_wp2
      go_ret
      exact ⟨rfl, hbel⟩
    · go_wp2
      go_ret
      exact ⟨rfl, hbel⟩
theorem numCut_shell (a0 : Int) (a1 : ByteArray) (a2 : Int) (w0 : (Lit.int .i64 a0).wf = true) (w1 : a1.size ≤ maxLen) (w2 : (Lit.int .i64 a2).wf = true) (w : World) :
    Calls Try.prog 7 #[.int .i64 a0, .string a1, .int .i64 a2] w fun e w' => e = .returned (.bool true) ∧ Below w.heap.size w w' :=
  numCut_walk a0 a1 a2 w (bounds_i64 w0).1 (bounds_i64 w0).2 w1 (bounds_i64 w2).2
end Go.Proofs.Ytafchnieimhlbaa

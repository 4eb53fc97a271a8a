/-
  LinesTwo.
-/
import Derived.Test.YtkpaafdmhalbmaaCutS
import Derived.Test.YtkpaafdmhalbmaaLinBegun
namespace Go.Proofs.Ytkpaafdmhalbmaa
open Go.RowKit
theorem byteAt_three (a b : ByteArray) : (∀ i, i < a.size → byteAt (a ++ ⟨#[10]⟩ ++ b) i = byteAt a i) ∧ byteAt (a ++ ⟨#[10]⟩ ++ b) a.size = 10 ∧ ∀ i, byteAt (a ++ ⟨#[10]⟩ ++ b) (a.size + 1 + i) = byteAt b i := by
  have hsz : (a ++ ⟨#[10]⟩).size = a.size + 1 := by rw [ByteArray.size_append]; rfl
  refine ⟨fun i hi => ?_, ?_, fun i => ?_⟩
  · rw [byteAt_left _ _ _ (by omega), byteAt_left _ _ _ hi]
  · have h := byteAt_right a ⟨#[10]⟩ 0
    rw [Nat.add_zero] at h
    rw [byteAt_left _ _ _ (by omega), h]; rfl
  · rw [← hsz, byteAt_right]
set_option maxHeartbeats 2000000 in
set_option maxRecDepth 100000 in
theorem linesTwo_walk (a0 a1 : ByteArray) (a2 : Int) (w0 : a0.size ≤ maxLen) (w1 : a1.size ≤ maxLen) (w2 : -9223372036854775808 ≤ a2 ∧ a2 ≤ 9223372036854775807) (w : World) :
    Calls Try.prog 5 #[.string a0, .string a1, .int .i64 a2] w fun e w' => e = .returned (.bool true) ∧ Below w.heap.size w w' := by
  have hla := cutS_le a0 60
  have HCa := hide (fun w => cut_any a0 60 w w0 (by omega))
  have hlb := cutS_le a1 60
  have HCb := hide (fun w => cut_any a1 60 w w1 (by omega))
  generalize cutS a0 60 = a at *
  generalize cutS a1 60 = b at *
  have HB := hide (linesbegun_any w)
  go_enter Try.func5, Try.ntmps5
  go_wp2_with fail
  refine (unhide HB).mono ?_
  rintro e W0 ⟨rfl, hb0⟩
  go_wp2_with fail
  refine (unhide HCa _).mono ?_
  rintro e W1 ⟨rfl, rfl⟩
  go_wp2_with fail
  refine (unhide HCb _).mono ?_
  rintro e W1 ⟨rfl, rfl⟩
  clear HB HCa HCb
  by_cases h1 : a2 < 0
  · go_wp2
    go_ret
    exact ⟨rfl, hb0⟩
  by_cases h2 : (b.size : Int) < a2
  · go_wp2
    go_ret
    exact ⟨rfl, hb0⟩
  obtain ⟨k, rfl⟩ := Int.eq_ofNat_of_zero_le (show 0 ≤ a2 by omega)
  have hk : k ≤ b.size := by omega
  obtain ⟨hx1, hx2, hx3⟩ := byteAt_three a b
  obtain ⟨e1, e2⟩ := two_lines hx1 hx2 (fun i _ => hx3 i) k hk
  have hsz : (a ++ ⟨#[10]⟩ ++ b).size = a.size + 1 + b.size := by rw [ByteArray.size_append, ByteArray.size_append]; rfl
  have hsz1 : (a ++ ⟨#[10]⟩).size = a.size + 1 := by rw [ByteArray.size_append]; rfl
  have H1 := fun w => starts_any a w (by omega)
  have H2 := fun w => of_any (a ++ ⟨#[10]⟩ ++ b) (a.size + 1 + k) w (by omega) (by omega)
  have H3 := fun w => of_any b k w (by omega) hk
  rw [e1, e2] at H2
  have b1 := lnK_le a a.size
  have b2 := lnK_le b k
  have b3 := lsK_le b k
  have hpos := lnK_pos a a.size
  replace H1 := hide H1
  replace H3 := hide H3
  rw [show ((a.size + 1 + k : Nat) : Int) = (a.size : Int) + 1 + k by omega, show ((lnK a a.size + lnK b k : Nat) : Int) = (lnK a a.size : Int) + lnK b k by omega, show ((a.size + 1 + lsK b k : Nat) : Int) = (a.size : Int) + 1 + lsK b k by omega,
    show (a.size : Int) + 1 + k - ((a.size : Int) + 1 + lsK b k) + 1 = (k : Int) - lsK b k + 1 by omega] at H2
  replace H2 := hide H2
  clear hx1 hx2 hx3 e1 e2
  go_wp2_with fail
  refine (unhide H1 _).mono ?_
  rintro e W2 ⟨v, rfl, hown, hb2⟩
  obtain ⟨bb, off, cap, rfl, hc1, hc2, hc3, hc4⟩ := hown.lst (by show 0 < lnK a a.size; omega)
  have hlen : (List.map (Value.int .i64) (stK a a.size)).length = lnK a a.size := by rw [List.length_map]; rfl
  rw [hlen]
  clear hc4 hlen hown hc1 H1
  generalize lnK a a.size = n at *
  generalize lnK b k = m at *
  generalize lsK b k = l at *
  go_wp2_with fail
  refine (unhide H2 _).mono ?_
  rintro e W3 ⟨rfl, rfl⟩
  go_wp2_with fail
  refine (unhide H3 _).mono ?_
  rintro e W3 ⟨rfl, rfl⟩
  go_wp2
  go_ret
  exact ⟨rfl, below3 hb0 hb2⟩
theorem linesTwo_shell (a0 a1 : ByteArray) (a2 : Int) (w0 : a0.size ≤ maxLen) (w1 : a1.size ≤ maxLen) (w2 : (Lit.int .i64 a2).wf = true) (w : World) :
    Calls Try.prog 5 #[.string a0, .string a1, .int .i64 a2] w fun e w' => e = .returned (.bool true) ∧ Below w.heap.size w w' :=
  linesTwo_walk a0 a1 a2 w0 w1 (bounds_i64 w2) w
end Go.Proofs.Ytkpaafdmhalbmaa

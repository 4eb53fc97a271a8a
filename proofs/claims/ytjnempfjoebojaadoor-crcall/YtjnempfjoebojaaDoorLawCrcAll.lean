/-
  CrcAll's walk.
-/
import Derived.Test.YtjnempfjoebojaaDoorCrcRef
import Derived.Test.YtjnempfjoebojaaDoorAppendBts
namespace Go.Proofs.YtjnempfjoebojaaDoor
open Go.RowKit
set_option maxHeartbeats 1000000 in
set_option maxRecDepth 100000 in
theorem crcAll_shell (a0 : Option Addr) (len0 cap0 : Nat) (z0 : List Int) (a1 : Option Addr) (len1 cap1 : Nat) (z1 : List Int) (w : World) (w0 : IsRow .u8 w a0 len0 cap0 z0) (w1 : IsRow .u8 w a1 len1 cap1 z1) (ht0 : Tab w) :
    Calls Tryd.prog 3 #[.slice a0 len0 cap0, .slice a1 len1 cap1] w fun e w' => e = .returned (.bool true) ∧ Below w.heap.size w w' := by
  go_enter Tryd.func3, Tryd.ntmps3
  go_wp2_with fail
  refine (crcbegun_any _ ht0).mono ?_
  rintro e W1 ⟨rfl, hbel1⟩
  have ht := ht0.of hbel1
  have w0' := w0.below hbel1
  have w1' := w1.below hbel1
  have hBa := short_bts (n := 300) w0' (by omega)
  have hBb := short_bts (n := 300) w1' (by omega)
  clear ht0 w0 w1
  go_wp2_with fail
  refine (short_any a0 len0 cap0 z0 300 _ w0' (by omega)).mono ?_
  rintro e W1 ⟨rfl, rfl⟩
  go_wp2_with fail
  refine (short_any a1 len1 cap1 z1 300 _ w1' (by omega)).mono ?_
  rintro e W1 ⟨rfl, rfl⟩
  have hla : (z0.take (min len0 300)).length ≤ 300 := by simp; omega
  have hlb : (z1.take (min len1 300)).length ≤ 300 := by simp; omega
  clear w0' w1'
  generalize min len0 300 = m0 at *
  generalize min len1 300 = m1 at *
  generalize z0.take m0 = A at *
  generalize z1.take m1 = B at *
  go_wp2_with (at_builtin; refine wpList_append_bts _ rfl _ _ rfl _ _ _ _ rfl (World.ownsRow_nil _ _ _ _) _ _ rfl hBa (by omega) (Nat.le_refl _) ?_)
  intro v1 W2 hown1 hgrow1
  have hb2 : Below W1.heap.size W1 W2 := (Below.refl _ _).grown hgrow1 (Nat.le_refl _) (fun k hk => by simp [Value.ownBlock] at hk)
  have hBb2 := hBb.below hb2 (Nat.le_refl _)
  have hs2 := hb2.size
  clear hgrow1
  go_wp2_with (at_builtin; refine wpList_append_bts _ rfl _ _ rfl _ _ _ _ rfl hown1 _ _ rfl hBb2 (by omega) hs2 ?_)
  intro v2 W3 hown2 hgrow2
  have hb3 : Below W1.heap.size W1 W3 := hb2.grown hgrow2 hs2 (fun k hk => (hown1.lt k hk).1)
  have hBa3 := hBa.below hb3 (Nat.le_refl _)
  have hBb3 := hBb.below hb3 (Nat.le_refl _)
  have hBc : Bts W3 v2 (A ++ B) := by
    have h : W3.ownsRow W1.heap.size 5 1 v2 (A.length + B.length) ((A ++ B).map (Value.int .u8)) := by simpa using hown2
    exact Bts.ofOwn h (byt_append hBa.1 hBb.1) (by simp only [List.length_append]; omega)
  have ht3 := ht.of hb3
  have hbw : Below w.heap.size w W3 := hbel1.trans (hb3.mono hbel1.size)
  have hsA := sumM_lt A hBa.1
  have hms := more_sum A B
  clear hown1 hown2 hgrow2 hb2 hb3 hBb2 hBa hBb ht hbel1 hs2
  generalize A ++ B = C at *
  obtain ⟨ao, cc, rfl⟩ := hBc.len
  go_wp2_with fail
  refine (sum_any _ _ _ ht3 hBc).mono ?_
  rintro e W3 ⟨rfl, rfl⟩
  go_wp2_with fail
  refine (rsum_any _ _ _ hBc).mono ?_
  rintro e W3 ⟨rfl, rfl⟩
  go_wp2_with fail
  refine (sum_any _ _ _ ht3 hBa3).mono ?_
  rintro e W3 ⟨rfl, rfl⟩
  go_wp2_with fail
  refine (more_any _ _ _ _ hsA ht3 hBb3).mono ?_
  rintro e W3 ⟨rfl, rfl⟩
  go_wp2_with fail
  refine (sum_any _ _ _ ht3 hBc).mono ?_
  rintro e W3 ⟨rfl, rfl⟩
  go_wp2
  go_ret
  exact ⟨rfl, hbw⟩
end Go.Proofs.YtjnempfjoebojaaDoor

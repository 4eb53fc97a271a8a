/-
  The walks of package crc: half, More, Sum; of the reference's Sum.
-/
import Derived.Test.YtjnempfjoebojaaDoorRow
import Derived.Test.YtjnempfjoebojaaDoorCrcMath
import Derived.Laws.BitsAllLaws
import Derived.Deep.Draws
namespace Go.Proofs.YtjnempfjoebojaaDoor
open Go.RowKit
/-- The table of package crc lies where it was laid. -/
def Tab (w : World) : Prop := ∀ i, i < 16 → w.cell? ⟨0, i, none⟩ = some (.int .u32 (tabL.getD i 0 : Nat))
theorem Tab.lt {w : World} (h : Tab w) : 0 < w.heap.size := World.block_lt_of_cell? w _ (h 0 (by omega))
theorem Tab.below {w w' : World} (h : Tab w) {B : Nat} (hb : Below B w w') (hB : 0 < B) : Tab w' := fun i hi => by
  rw [hb.cell (by exact hB)]; exact h i hi
theorem Tab.of {w w' : World} (h : Tab w) (hb : Below w.heap.size w w') : Tab w' := h.below hb h.lt
theorem Tab.drewN {w : World} (h : Tab w) (n : Nat) : Tab (w.drewN n) := h
theorem and15 (r : Nat) (h : r < 4294967296) : bits .and .u32 (r : Int) 15 = ((r % 16 : Nat) : Int) := by
  have := u32_and_nat r 15 h (by omega)
  rw [show (15 : Int) = ((15 : Nat) : Int) from rfl, this, show (15 : Nat) = 2 ^ 4 - 1 from rfl, Nat.and_two_pow_sub_one_eq_mod]
theorem not32 (r : Nat) (h : r < 4294967296) : bits .xor .u32 IntKind.u32.max (r : Int) = ((r ^^^ 4294967295 : Nat) : Int) := by
  have := u32_xor_nat 4294967295 r (by omega) h
  rw [show IntKind.u32.max = ((4294967295 : Nat) : Int) by decide, this, Nat.xor_comm]
set_option maxHeartbeats 400000 in
set_option maxRecDepth 100000 in
theorem half_any (r : Nat) (w : World) (hr : r < 4294967296) (ht : Tab w) :
    Calls Tryd.prog 12 #[.int .u32 r] w fun e w' => e = .returned (.int .u32 (sts 4 r : Nat)) ∧ w' = w := by
  have hand := and15 r hr
  have hc := ht (r % 16) (by omega)
  have hx := u32_xor_nat (tabL.getD (r % 16) 0) (r / 16) (tab_lt _) (by omega)
  rw [half_is, show ((r / 16 : Nat) : Int) = (r : Int) / 16 by omega] at hx
  generalize sts 4 r = z at *
  generalize tabL.getD (r % 16) 0 = t at *
  generalize hm : r % 16 = m at *
  have hm16 : m < 16 := by omega
  clear ht hm
  go_enter Tryd.func12, Tryd.ntmps12
  go_wp2
  go_ret
  exact ⟨rfl, rfl⟩
set_option maxHeartbeats 400000 in
set_option maxRecDepth 100000 in
theorem more_some (s b off cap : Nat) (xs : List Int) (w : World) (hs : s < 4294967296) (hx : Byt xs) (hm : xs.length ≤ 9223372036854775807) (ht : Tab w)
    (hc : ∀ i, i < xs.length → w.cell? ⟨b, off + i, none⟩ = some (.int .u8 (xs.getD i 0))) :
    Calls Tryd.prog 11 #[.int .u32 s, .slice (some ⟨b, off, none⟩) xs.length cap] w fun e w' => e = .returned (.int .u32 (moreM s xs : Nat)) ∧ w' = w := by
  have HC : Hid (∀ i, i < xs.length → w.cell? ⟨b, off + i, none⟩ = some (.int .u8 (xs.getD i 0))) := hc
  clear hc
  have hn := not32 s hs
  have HS := hide (xor_lt32 hs (show 4294967295 < 4294967296 by omega))
  go_enter Tryd.func11, Tryd.ntmps11
  go_wp2
  go_loop [5, 12] (fun rs ks => ∃ k r : Nat, k ≤ xs.length ∧ ks = .int .i64 k ∧ rs = .int .u32 r ∧ r < 4294967296 ∧ crcF r (xs.drop k) = crcF (s ^^^ 4294967295) xs) (fun _ k => xs.length - (intOf k).toNat)
  case atStart => exact ⟨0, s ^^^ 4294967295, by omega, rfl, by rw [← hn], unhide HS, rfl⟩
  case round =>
    obtain ⟨k, r, hk, rfl, rfl, hr, hg⟩ := hrel
    clear hn HS
    by_cases hlt : k < xs.length
    · have hck := HC.out k hlt
      have hcr := byt_getD hx k hlt
      rw [drop_getD xs k hlt] at hg
      generalize xs.getD k 0 = c at hck hcr hg
      obtain ⟨cn, rfl⟩ := Int.eq_ofNat_of_zero_le hcr.1
      have hcn : cn < 256 := by omega
      have hxo := u32_xor_nat r cn hr (by omega)
      have HR1 := hide (xor_lt32 hr (show cn < 4294967296 by omega))
      rw [crcF_cons, Int.toNat_natCast, ← half_half] at hg
      have HG := hide hg
      clear hg
      go_wp2_with fail
      refine (half_any (r ^^^ cn) _ (unhide HR1) ht).mono ?_
      rintro e w' ⟨rfl, rfl⟩
      go_wp2_with fail
      refine (half_any _ _ (sts_lt _ _ (unhide HR1)) ht).mono ?_
      rintro e w' ⟨rfl, rfl⟩
      have HR2 := hide (sts_lt 4 _ (sts_lt 4 _ (unhide HR1)))
      generalize sts 4 (sts 4 (r ^^^ cn)) = r2 at *
      go_wp2
      go_round
      case rel => exact ⟨k + 1, r2, by omega, by go_num, rfl, unhide HR2, unhide HG⟩
      case measure => simp [intOf]; omega
    · rw [List.drop_of_length_le (by omega)] at hg
      have hg' : r = crcF (s ^^^ 4294967295) xs := hg
      have hn := not32 r hr
      have HM : Hid (moreM s xs = r ^^^ 4294967295) := by unfold moreM; rw [hg']; exact rfl
      clear hg hg'
      go_wp2
      go_ret
      exact ⟨ret_int (by rw [unhide HM]), rfl⟩
set_option maxHeartbeats 400000 in
set_option maxRecDepth 100000 in
theorem more_empty (s : Nat) (ao : Option Addr) (cap : Nat) (w : World) (hs : s < 4294967296) :
    Calls Tryd.prog 11 #[.int .u32 s, .slice ao 0 cap] w fun e w' => e = .returned (.int .u32 s) ∧ w' = w := by
  have hn := not32 s hs
  have hn2 := not32 (s ^^^ 4294967295) (xor_lt32 hs (by omega))
  rw [xor_back] at hn2
  go_enter Tryd.func11, Tryd.ntmps11
  go_wp2
  go_rounds 1
  go_ret
  exact ⟨rfl, rfl⟩
theorem more_nil (s : Nat) : moreM s [] = s := by
  show (s ^^^ 4294967295) ^^^ 4294967295 = s
  exact xor_back _ _
theorem more_any (s : Nat) (v : Value) (xs : List Int) (w : World) (hs : s < 4294967296) (ht : Tab w) (h : Bts w v xs) :
    Calls Tryd.prog 11 #[.int .u32 s, v] w fun e w' => e = .returned (.int .u32 (moreM s xs : Nat)) ∧ w' = w := by
  obtain ⟨hx, hl, ⟨rfl, ao, cap, rfl, _⟩ | ⟨b, off, cap, rfl, h0, h1, h2, h3, h4⟩⟩ := h
  · rw [more_nil]; exact more_empty s ao cap w hs
  · exact more_some s b off cap xs w hs hx (by omega) ht h4
set_option maxHeartbeats 400000 in
set_option maxRecDepth 100000 in
theorem sum_any (v : Value) (xs : List Int) (w : World) (ht : Tab w) (h : Bts w v xs) :
    Calls Tryd.prog 9 #[v] w fun e w' => e = .returned (.int .u32 (sumM xs : Nat)) ∧ w' = w := by
  go_enter Tryd.func9, Tryd.ntmps9
  go_wp2_with fail
  refine (more_any 0 v xs _ (by omega) ht h).mono ?_
  rintro e w' ⟨rfl, rfl⟩
  rw [more_zero]
  go_wp2
  go_ret
  exact ⟨rfl, rfl⟩
end Go.Proofs.YtjnempfjoebojaaDoor

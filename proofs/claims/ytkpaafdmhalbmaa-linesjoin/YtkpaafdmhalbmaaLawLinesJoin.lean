/-
  LinesJoin.
-/
import Derived.Test.YtkpaafdmhalbmaaCutS
import Derived.Test.YtkpaafdmhalbmaaLinBegun
namespace Go.Proofs.Ytkpaafdmhalbmaa
open Go.RowKit
theorem ext_byte {a b : ByteArray} (h : a.size = b.size) (hb : ∀ i, i < a.size → byteAt a i = byteAt b i) : a = b := by
  apply ByteArray.ext
  apply Array.ext
  · exact h
  · intro i h1 h2
    have h1' : i < a.size := h1
    have := hb i h1'
    rw [byteAt_eq, byteAt_eq, Array.getElem?_eq_getElem h1, Array.getElem?_eq_getElem h2] at this
    exact UInt8.toNat_inj.1 this
theorem byteAt_ext (s : ByteArray) (a b i : Nat) (hb : b ≤ s.size) (h : a + i < b) : byteAt (s.extract a b) i = byteAt s (a + i) := by
  rw [byteAt_eq, byteAt_eq, ByteArray.data_extract, Array.getElem?_extract]
  have e : s.size = s.data.size := rfl
  rw [if_pos (by omega)]
theorem extract_join (s : ByteArray) (a b : Nat) (hab : a ≤ b) (hb : b ≤ s.size) : s.extract 0 a ++ s.extract a b = s.extract 0 b := by
  apply ext_byte
  · rw [ByteArray.size_append, ByteArray.size_extract, ByteArray.size_extract, ByteArray.size_extract]; omega
  · intro i hi
    rw [ByteArray.size_append, ByteArray.size_extract, ByteArray.size_extract] at hi
    by_cases h : i < a
    · rw [byteAt_left _ _ _ (by rw [ByteArray.size_extract]; omega), byteAt_ext _ _ _ _ (by omega) (by omega), byteAt_ext _ _ _ _ (by omega) (by omega)]
    · have hs : (s.extract 0 a).size = a := by rw [ByteArray.size_extract]; omega
      have := byteAt_right (s.extract 0 a) (s.extract a b) (i - a)
      rw [hs, show a + (i - a) = i by omega] at this
      rw [this, byteAt_ext _ _ _ _ (by omega) (by omega), byteAt_ext _ _ _ _ (by omega) (by omega)]
      congr 1
      omega
theorem extract_one (s : ByteArray) (a : Nat) (ha : a < s.size) (h : byteAt s a = 10) : s.extract 0 a ++ ⟨#[10]⟩ = s.extract 0 (a + 1) := by
  have : s.extract a (a + 1) = ⟨#[10]⟩ := by
    apply ext_byte
    · rw [ByteArray.size_extract]; show min (a + 1) s.size - a = 1; omega
    · intro i hi
      rw [ByteArray.size_extract] at hi
      obtain rfl : i = 0 := by omega
      rw [byteAt_ext _ _ _ _ (by omega) (by omega), Nat.add_zero, h]
      rfl
  rw [← this, extract_join _ _ _ (by omega) (by omega)]
theorem extract_all (s : ByteArray) : s.extract 0 s.size = s := by
  apply ext_byte
  · rw [ByteArray.size_extract]; omega
  · intro i hi
    rw [ByteArray.size_extract] at hi
    rw [byteAt_ext _ _ _ _ (by omega) (by omega), Nat.zero_add]
/-- The text up to the end of the i-th line. -/
def upK (s : ByteArray) : Nat → ByteArray
  | 0 => ⟨#[]⟩
  | i + 1 => s.extract 0 (toK s i).toNat
theorem upK_zero (s : ByteArray) (hi : 0 < lnK s s.size) : ⟨#[]⟩ ++ lineK s 0 = upK s 1 := by
  have h := frK_toK s hi
  rw [lineK, frK_zero, upK]
  apply ext_byte
  · rw [ByteArray.size_append]; simp; rfl
  · intro i _
    have := byteAt_right ⟨#[]⟩ (s.extract (0 : Int).toNat (toK s 0).toNat) i
    rw [show (⟨#[]⟩ : ByteArray).size = 0 from rfl, Nat.zero_add] at this
    rw [this]; rfl
theorem upK_step (s : ByteArray) (i : Nat) (hi : i + 1 < lnK s s.size) : upK s (i + 1) ++ ⟨#[10]⟩ ++ lineK s (i + 1) = upK s (i + 2) := by
  obtain ⟨q, h1, h2, h3⟩ := toK_byte s hi
  have h4 : frK s (i + 1) = q + 1 := by rw [toK_nl hi] at h1; omega
  have h5 := frK_toK s hi
  rw [upK, upK, lineK, h1, h4, show (q : Int).toNat = q by omega, extract_one s q h2 h3, show ((q : Int) + 1).toNat = q + 1 by omega]
  exact extract_join s (q + 1) _ (by omega) (by omega)
theorem upK_all (s : ByteArray) : upK s (lnK s s.size) = s := by
  have h := lnK_pos s s.size
  obtain ⟨i, hi⟩ : ∃ i, lnK s s.size = i + 1 := ⟨lnK s s.size - 1, by omega⟩
  rw [hi, upK, toK_last hi.symm]
  exact extract_all s
theorem upK_size (s : ByteArray) : ∀ i, (upK s i).size ≤ s.size
  | 0 => Nat.zero_le _
  | i + 1 => by rw [upK, ByteArray.size_extract]; omega
theorem lineK_size (s : ByteArray) (i : Nat) : (lineK s i).size ≤ s.size := by rw [lineK, ByteArray.size_extract]; omega
theorem lineK_no (s : ByteArray) {i k : Nat} (hi : i < lnK s s.size) (hk : k < (lineK s i).size) : ¬ byteAt (lineK s i) k = 10 := by
  have h1 := frK_bounds s hi
  have h2 := frK_toK s hi
  rw [lineK, ByteArray.size_extract] at hk
  rw [lineK, byteAt_ext _ _ _ _ (by omega) (by omega)]
  exact line_no s hi (by omega) (by omega)
set_option maxHeartbeats 4000000 in
set_option maxRecDepth 100000 in
theorem linesJoin_shell (a0 : ByteArray) (w0 : a0.size ≤ maxLen) (w : World) :
    Calls Try.prog 4 #[.string a0] w fun e w' => e = .returned (.bool true) ∧ Below w.heap.size w w' := by
  have hla := cutS_le a0 200
  have HC := hide (fun w => cut_any a0 200 w w0 (by omega))
  generalize cutS a0 200 = s at *
  have HB := hide (linesbegun_any w)
  have H1 := hide (fun w => starts_any s w (by omega))
  have HL := hide (fun i w (hi : i < lnK s s.size) => line_any s i w (by omega) hi)
  have HN0 := hide (fun w => line_none s 0 w (by omega) (by omega))
  have HN1 := hide (fun w => line_none s ((lnK s s.size : Int) + 1) w (by omega) (by omega))
  have hl1 := lnK_le s s.size
  have hl0 := lnK_pos s s.size
  have hU0 := hide (upK_zero s hl0)
  have hUs := hide (upK_step s)
  have hUa := hide (upK_all s)
  have hno := hide (fun i k (hi : i < lnK s s.size) (hk : k < (lineK s i).size) => lineK_no s hi hk)
  go_enter Try.func4, Try.ntmps4
  go_wp2_with fail
  refine (unhide HB).mono ?_
  rintro e W0 ⟨rfl, hb0⟩
  go_wp2_with fail
  refine (unhide HC _).mono ?_
  rintro e W1 ⟨rfl, rfl⟩
  go_wp2_with fail
  refine (unhide H1 _).mono ?_
  rintro e W2 ⟨v, rfl, hown, hb2⟩
  clear HB HC H1
  obtain ⟨b, off, cap, rfl, hc1, hc2, hc3, hc4⟩ := hown.lst (by show 0 < lnK s s.size; omega)
  have hlen : (List.map (Value.int .i64) (stK s s.size)).length = lnK s s.size := by rw [List.length_map]; rfl
  rw [hlen]
  clear hc1 hc3 hc4 hlen hown
  replace hb2 := below3 hb0 hb2
  clear hb0
  generalize lnK s s.size = Ln at *
  go_wp2
  go_loopw [5, 6] (fun os is wr => ∃ i : Nat, i ≤ Ln ∧ os = .string (upK s i) ∧ is = .int .i64 ((i : Int) + 1) ∧ Below W2.heap.size W2 wr) (fun _ is _ => Ln + 1 - (intOf is).toNat)
  case atStart => exact ⟨0, by omega, rfl, rfl, Below.refl _ _⟩
  case round =>
    obtain ⟨i, hi, rfl, rfl, hb⟩ := hrel
    by_cases hlt : i < Ln
    · have HL1 := hide (fun w => unhide HL i w hlt)
      have hs1 := upK_size s i
      have hs2 := lineK_size s i
      have hnn := hide (fun k => unhide hno i k hlt)
      go_wp2_with fail
      refine (unhide HL1 _).mono ?_
      rintro e W3 ⟨rfl, hb3⟩
      replace hb3 := hb.trans (hb3.mono hb.size)
      clear HL1
      have hR : (0 < i → upK s i ++ ⟨#[10]⟩ ++ lineK s i = upK s (i + 1)) ∧ (i = 0 → upK s i ++ lineK s i = upK s (i + 1)) := by
        constructor
        · intro h
          obtain ⟨j, rfl⟩ : ∃ j, i = j + 1 := ⟨i - 1, by omega⟩
          exact unhide hUs j hlt
        · intro h
          subst h
          exact unhide hU0
      replace hR := hide hR
      generalize lineK s i = l at *
      go_wp2
      go_loopw [9] (fun ks wr => ∃ k : Nat, k ≤ l.size ∧ ks = .int .i64 k ∧ W3 = wr) (fun ks _ => l.size - (intOf ks).toNat)
      case atStart => exact ⟨0, by omega, rfl, rfl⟩
      case round =>
        obtain ⟨k, hk, rfl, rfl⟩ := hrel
        by_cases hkl : k < l.size
        · have hbyte : ∀ h, (l[k]'h).toNat = byteAt l k := fun h => byteAt_idx l k h
          have h10 : ¬ (byteAt l k : Int) = 10 := by have := unhide hnn k hkl; omega
          go_wp2
          go_roundw
          case rel => exact ⟨k + 1, by omega, by go_num, by trivial⟩
          case measure => simp [intOf]; omega
        · obtain rfl : k = l.size := by omega
          by_cases hi0 : i = 0
          · subst hi0
            have hR2 := (unhide hR).2 rfl
            have hz : (upK s 0 ++ l).size ≤ s.size := by rw [hR2]; exact upK_size s 1
            rw [ByteArray.size_append] at hz
            replace hR2 := hide hR2
            go_wp2
            go_roundw
            case rel => exact ⟨1, by omega, by rw [unhide hR2], by go_num, hb3⟩
            case measure => simp [intOf]; omega
          · have hR2 := (unhide hR).1 (by omega)
            have hz : (upK s i ++ ⟨#[10]⟩ ++ l).size ≤ s.size := by rw [hR2]; exact upK_size s (i + 1)
            rw [ByteArray.size_append, ByteArray.size_append] at hz
            replace hR2 := hide hR2
            go_wp2
            go_roundw
            case rel => exact ⟨i + 1, by omega, by rw [unhide hR2], by go_num, hb3⟩
            case measure => simp [intOf]; omega
    · obtain rfl : i = Ln := by omega
      rw [unhide hUa]
      go_wp2_with fail
      refine (unhide HN0 _).mono ?_
      rintro e W3 ⟨t3, rfl, hb3⟩
      go_wp2_with fail
      refine (unhide HN1 _).mono ?_
      rintro e W4 ⟨t4, rfl, hb4⟩
      go_wp2
      go_ret
      exact ⟨rfl, below3 (below3 (below3 hb2 hb) hb3) hb4⟩
end Go.Proofs.Ytkpaafdmhalbmaa

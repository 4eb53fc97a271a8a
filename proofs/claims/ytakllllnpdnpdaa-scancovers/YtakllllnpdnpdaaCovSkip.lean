/-
  ScanCovers' own closure: over blanks to a place.
-/
import Derived.Test.YtakllllnpdnpdaaCovMath
import Derived.Deep.LoopGhost
import Derived.Lib.SmallJoins
namespace Go.Proofs.Ytakllllnpdnpdaa
open Go.RowKit
/-- Block g is one cell. -/
def One (w : World) (g : Nat) (t : Nat) (v : Value) : Prop := w.heap[g]? = some (.cells #[v] t (0, 0))
theorem One.cell {w : World} {g t : Nat} {v : Value} (h : One w g t v) : w.cell? ⟨g, 0, none⟩ = some v := by rw [Joins.cell_of_block h 0]; rfl
theorem One.frozen {w : World} {g t : Nat} {v : Value} (h : One w g t v) : w.frozen? ⟨g, 0, none⟩ = false := Joins.unfrozen_of_block h 0
theorem One.set {w : World} {g t : Nat} {v : Value} (h : One w g t v) (u : Value) : One (w.setCell ⟨g, 0, none⟩ u) g t u := Joins.block_setCell (i := 0) h u
theorem One.other {w : World} {g g' t : Nat} {v : Value} (h : One w g t v) (hne : g ≠ g') (u : Value) : One (w.setCell ⟨g', 0, none⟩ u) g t v :=
  (Below.heap_setCell _ _ _ _ hne).trans h
theorem One.lt {w : World} {g t : Nat} {v : Value} (h : One w g t v) : g < w.heap.size := (Array.getElem?_eq_some_iff.1 h).1
set_option maxHeartbeats 2000000 in
set_option maxRecDepth 100000 in
theorem skip_any (s : ByteArray) (w : World) (B ga gs gn a q ln : Nat) (hs : s.size ≤ 100000) (hgs : gs < B) (hga : B ≤ ga) (hgn : B ≤ gn) (hne : ga ≠ gn) (ha : One w ga 3 (.int .i64 a)) (hn : One w gn 3 (.int .i64 ln)) (hc : w.cell? ⟨gs, 0, none⟩ = some (.string s))
    (haq : a ≤ q) (hq : q ≤ s.size) (hln : ln ≤ 1000000) (hb : Blk s a q) :
    Calls Try.prog 7 #[.int .i64 q, .pointer (some ⟨ga, 0, none⟩), .pointer (some ⟨gs, 0, none⟩), .pointer (some ⟨gn, 0, none⟩)] w fun e w' => e = .returned (.bool true) ∧ One w' ga 3 (.int .i64 q) ∧ One w' gn 3 (.int .i64 ((ln + nls s a q : Nat) : Int)) ∧ Below B w w' := by
  replace hb := hide hb
  go_enter Try.func7, Try.ntmps7
  go_wp2
  go_loopg [] s.size (fun gf wx => ∃ b : Nat, a ≤ b ∧ b ≤ q ∧ q ≤ b + gf ∧ One wx ga 3 (.int .i64 b) ∧ One wx gn 3 (.int .i64 ((ln + nls s a b : Nat) : Int)) ∧ Below B w wx)
  case atStart => exact ⟨a, Nat.le_refl _, haq, by omega, ha, by rw [nls_self]; exact hn, Below.refl _ _⟩
  case round =>
    obtain ⟨b, h1, h2, h3, hA, hN, hw⟩ := hrel
    have hcs : wr.cell? ⟨gs, 0, none⟩ = some (.string s) := by rw [hw.cell (by exact hgs)]; exact hc
    have cA := hA.cell
    have fA := hA.frozen
    have cN := hN.cell
    have fN := hN.frozen
    have hnl : nls s a b ≤ b - a := nls_le s a (b - a)
    clear ha hn
    by_cases hlt : b < q
    · obtain ⟨g', rfl⟩ : ∃ g', gk = g' + 1 := ⟨gk - 1, by omega⟩
      have hbyte : ∀ h, (s[b]'h).toNat = byteAt s b := fun h => byteAt_idx s b h
      have hbl := unhide hb b h1 hlt
      by_cases h10 : byteAt s b = 10
      · have hR := nls_nl h1 h10
        have hR2 : ((ln + nls s a (b + 1) : Nat) : Int) = ((ln + nls s a b : Nat) : Int) + 1 := by rw [hR]; omega
        replace hR2 := hide hR2
        clear hR hbl
        have hml : ln + nls s a b ≤ 2000000 := by omega
        clear hnl
        generalize ln + nls s a b = m at *
        have hN2 := (hN.set (.int .i64 ((m : Int) + 1))).other (g' := ga) (Ne.symm hne) (.int .i64 ((b : Int) + 1))
        have hA1 := hA.other hne (.int .i64 ((m : Int) + 1))
        have hA2 := hA1.set (.int .i64 ((b : Int) + 1))
        have cA2 := hA1.cell
        have fA2 := hA1.frozen
        have hw2 := (hw.setCell (p := ⟨gn, 0, none⟩) (by exact hgn) (.int .i64 ((m : Int) + 1))).setCell (p := ⟨ga, 0, none⟩) (by exact hga) (.int .i64 ((b : Int) + 1))
        replace hN2 := hide hN2
        replace hA2 := hide hA2
        replace hw2 := hide hw2
        clear hA hN hw hA1
        go_wp2
        go_roundg g'
        case measure => omega
        case rel => exact ⟨b + 1, by omega, by omega, by omega, unhide hA2, by rw [unhide hR2]; exact unhide hN2, unhide hw2⟩
      · have hR := hide (nls_no h1 h10)
        have hA2 := hide (hA.set (.int .i64 ((b : Int) + 1)))
        have hN2 := hide (hN.other (g' := ga) (Ne.symm hne) (.int .i64 ((b : Int) + 1)))
        have hw2 := hide (hw.setCell (p := ⟨ga, 0, none⟩) (by exact hga) (.int .i64 ((b : Int) + 1)))
        clear hA hN hw
        by_cases h32 : byteAt s b = 32
        · clear hbl
          go_wp2
          go_roundg g'
          case measure => omega
          case rel => exact ⟨b + 1, by omega, by omega, by omega, unhide hA2, by rw [unhide hR]; exact unhide hN2, unhide hw2⟩
        · have h9 : byteAt s b = 9 := by omega
          clear hbl
          go_wp2
          go_roundg g'
          case measure => omega
          case rel => exact ⟨b + 1, by omega, by omega, by omega, unhide hA2, by rw [unhide hR]; exact unhide hN2, unhide hw2⟩
    · obtain rfl : b = q := by omega
      go_wp2
      go_ret
      exact ⟨rfl, hA, hN, hw⟩
end Go.Proofs.Ytakllllnpdnpdaa

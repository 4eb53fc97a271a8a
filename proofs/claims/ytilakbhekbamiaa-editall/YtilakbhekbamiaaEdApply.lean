/-
  The program's Apply.
-/
import Derived.Test.YtilakbhekbamiaaEdMay
import Derived.Test.YtilakbhekbamiaaBuild
import Derived.Test.YtilakbhekbamiaaShelf
namespace Go.Proofs.Ytilakbhekbamiaa
open Go.RowKit
set_option linter.unusedSimpArgs false
set_option linter.unusedVariables false
def Rng (L : List Ed) : Prop := ∀ e ∈ L, (-9223372036854775808 ≤ e.p ∧ e.p ≤ 9223372036854775807) ∧ (-9223372036854775808 ≤ e.n ∧ e.n ≤ 9223372036854775807)
theorem strCells_append (a b : ByteArray) : Lib.strCells (a ++ b) = Lib.strCells a ++ Lib.strCells b := by
  simp [Lib.strCells, ByteArray.data_append]
set_option maxHeartbeats 8000000 in
set_option maxRecDepth 100000 in
theorem pApply_no (v : Value) (L : List Ed) (s : ByteArray) (w : World) (h : Eds w v L) (hl : L.length ≤ 1000) (hs : s.size ≤ 100000000) (hr : Rng L) (hm : mayB L s.size = false) :
    Calls Try.prog 10 #[.string s, v] w fun e w' => e = .returned (.tuple #[.string ⟨#[]⟩, .bool false]) ∧ Below w.heap.size w w' := by
  have hMay := hide (pMay_any v L s.size w h (by omega) ⟨by omega, by omega⟩ hr)
  rw [hm] at hMay
  replace h := hide h
  replace hr := hide hr
  replace hm := hide hm
  go_enter Try.func10, Try.ntmps10
  go_wp2_with fail
  refine (unhide hMay).mono ?_
  rintro e W1 ⟨rfl, hb⟩
  go_wp2
  go_ret2
  exact ⟨rfl, hb⟩
set_option maxHeartbeats 8000000 in
set_option maxRecDepth 100000 in
theorem pApply_yes (v : Value) (L : List Ed) (s : ByteArray) (w : World) (h : Eds w v L) (hl : L.length ≤ 1000) (hs : s.size ≤ 1000000) (hB : ∀ e ∈ L, e.s.size ≤ 1000000) (hr : Rng L) (hm : mayB L s.size = true) :
    Calls Try.prog 10 #[.string s, v] w fun e w' => e = .returned (.tuple #[.string (appS s L), .bool true]) ∧ Below w.heap.size w w' := by
  have hMay := hide (pMay_any v L s.size w h (by omega) ⟨by omega, by omega⟩ hr)
  rw [hm] at hMay
  have hE := hide h
  obtain ⟨a, c, rfl, h1, h2, h3⟩ := h
  unfold maxLen at h2
  obtain ⟨n, hn⟩ : ∃ n, L.length = n := ⟨_, rfl⟩
  have hbig := hide (fun k (hk : k ≤ L.length) => outK_size hB hk (mayK_le hk hm))
  have hap : Hid (appS s L = outK s L n ++ s.extract (atK L n) s.size) := hide (by rw [appS, hn])
  unfold mayB at hm
  rw [hn] at hl h1 h3 hbig hm hE hMay ⊢
  replace h3 := hide h3
  replace hm := hide hm
  replace hB := hide hB
  replace hr := hide hr
  go_enter Try.func10, Try.ntmps10
  go_wp2_with fail
  refine (unhide hMay).mono ?_
  clear hMay hE hr
  rintro e W1 ⟨rfl, hb1⟩
  go_wp2
  go_loopg [7, 17] n (fun gf s7 s17 wx => ∃ i : Nat, s7 = .int .i64 (atK L i) ∧ s17 = .int .i64 i ∧ i + gf = n ∧ Bld wx W1.heap.size W1.heap.size (Lib.strCells (outK s L i)) ∧ Below W1.heap.size W1 wx)
  case atStart => exact ⟨0, rfl, rfl, by omega, Lib.IsBuilderF.of (Lib.fresh_isBuilder 39 5 W1), below_alloc _ _⟩
  case round =>
    obtain ⟨i, rfl, rfl, hi, hbl, hbw⟩ := hrel
    have hat := atK_le (mayK_le (show i ≤ n by omega) (unhide hm))
    have hsz := unhide hbig i (by omega)
    have hsz2 : (outK s L i).size ≤ 1000 * 2000000 := Nat.le_trans hsz (Nat.mul_le_mul (by omega) (by omega))
    clear hsz
    have hwz := hbw.size
    by_cases hlt : i < n
    · have hlz : (i : Int) < n := by omega
      obtain ⟨g', rfl⟩ : ∃ g', gk = g' + 1 := ⟨gk - 1, by omega⟩
      obtain ⟨g, off, rfl, hg, hc⟩ := unhide h3 (by omega)
      have hnx := atK_next (mayK_le (show i + 1 ≤ n by omega) (unhide hm))
      obtain ⟨k1, k2, k3, k4⟩ := okE_iff.1 (mayK_at hlt (unhide hm)).1
      have ho : Hid (outK s L (i + 1) = outK s L i ++ (s.extract (atK L i) (L.getD i ed0).p.toNat ++ (L.getD i ed0).s)) := hide rfl
      have ha : Hid (((atK L (i + 1) : Nat) : Int) = (L.getD i ed0).p + (L.getD i ed0).n) := hide (by rw [atK]; omega)
      have hBi : (L.getD i ed0).s.size ≤ 1000000 := unhide hB _ (by
        have : i < L.length := by omega
        simp [List.getD, this])
      obtain ⟨x0, x1, x2⟩ := (hc i hlt).below hg (below3 hb1 hbw)
      clear hc
      generalize L.getD i ed0 = E at *
      obtain ⟨ep, en, es⟩ := E
      dsimp only at *
      obtain ⟨p, rfl⟩ := Int.eq_ofNat_of_zero_le k1
      obtain ⟨m, rfl⟩ := Int.eq_ofNat_of_zero_le k2
      replace ho : Hid (outK s L (i + 1) = outK s L i ++ (s.extract (atK L i) p ++ es)) := ho
      have hes : (s.extract (atK L i) p).size ≤ 1000000 := by rw [ByteArray.size_extract]; omega
      have hadd : IntKind.i64.wrap ((p : Int) + m) = (p : Int) + m := wrapI _ (by omega) (by omega)
      have hbl1 := Lib.IsBuilderF.alloc hbl (.cells #[.int .i64 p, .int .i64 m, .string es] 31 (0, 0))
      have hbw1 := hbw.alloc hwz (.cells #[.int .i64 p, .int .i64 m, .string es] 31 (0, 0))
      have hbk : (wr.alloc (.cells #[.int .i64 p, .int .i64 m, .string es] 31 (0, 0))).heap[wr.heap.size]? = some (.cells #[.int .i64 p, .int .i64 m, .string es] 31 (0, 0)) := heap_alloc_new _ _
      have hne : W1.heap.size < wr.heap.size := by
        rcases hbl with hx | hx
        · exact hx.lt
        · exact hx.lt
      clear hap hbig h3 hm hbl
      generalize outK s L i = O at *
      generalize atK L i = A at *
      have hln : (Lib.strCells O).length = O.size := Lib.strCells_length O
      replace hbk := hide hbk
      replace hbl1 := hide hbl1
      go_wp2_with fail
      refine (bWrite_any W1.heap.size W1.heap.size _ _ _ (unhide hbl1) (by rw [hln]; omega) hbw1.size).mono ?_
      rintro e W2 ⟨rfl, hbl2, hbw2, hk2⟩
      replace hbw2 := hbw1.trans hbw2
      have hbk2 := hk2 _ _ (unhide hbk) (fun h => by simp at h; omega) (fun c fz h => by simp at h)
      have y0 : W2.cell? ⟨wr.heap.size, 0, none⟩ = some (.int .i64 p) := by rw [Lib.cell_of_heap hbk2]; rfl
      have y1 : W2.cell? ⟨wr.heap.size, 1, none⟩ = some (.int .i64 m) := by rw [Lib.cell_of_heap hbk2]; rfl
      have y2 : W2.cell? ⟨wr.heap.size, 2, none⟩ = some (.string es) := by rw [Lib.cell_of_heap hbk2]; rfl
      replace hbk2 := hide hbk2
      have hln2 : (Lib.strCells (s.extract A p)).length = (s.extract A p).size := Lib.strCells_length _
      have hln3 := Lib.strCells_length es
      go_wp2_with fail
      refine (bWrite_any W1.heap.size W1.heap.size _ _ _ hbl2 (by rw [List.length_append, hln, hln2]; omega) hbw2.size).mono ?_
      rintro e W3 ⟨rfl, hbl3, hbw3, hk3⟩
      replace hbw3 := hbw2.trans hbw3
      have hbk3 := hk3 _ _ (unhide hbk2) (fun h => by simp at h; omega) (fun c fz h => by simp at h)
      clear y0 y1 y2
      have y0 : W3.cell? ⟨wr.heap.size, 0, none⟩ = some (.int .i64 p) := by rw [Lib.cell_of_heap hbk3]; rfl
      have y1 : W3.cell? ⟨wr.heap.size, 1, none⟩ = some (.int .i64 m) := by rw [Lib.cell_of_heap hbk3]; rfl
      replace hbk3 := hide hbk3
      replace hbl3 := hide hbl3
      go_wp2
      go_roundg g'
      case measure => omega
      case rel => exact ⟨i + 1, by rw [unhide ha], by go_num, by omega, by rw [unhide ho, strCells_append, strCells_append, ← List.append_assoc]; exact unhide hbl3, hbw3⟩
    · have hlz : ¬ (i : Int) < n := by omega
      obtain rfl : i = n := by omega
      have hes : (s.extract (atK L i) s.size).size ≤ 1000000 := by rw [ByteArray.size_extract]; omega
      generalize outK s L i = O at *
      generalize atK L i = A at *
      have hln : (Lib.strCells O).length = O.size := Lib.strCells_length O
      clear hm hbig h3 hB
      replace hbl := hide hbl
      go_wp2_with fail
      refine (bWrite_any W1.heap.size W1.heap.size _ _ _ (unhide hbl) (by rw [hln]; omega) hbw.size).mono ?_
      rintro e W2 ⟨rfl, hbl2, hbw2, hk2⟩
      replace hbw2 := hbw.trans hbw2
      rw [← strCells_append, ← unhide hap, Lib.strCells_eq] at hbl2
      replace hbl2 := hide hbl2
      go_wp2_with fail
      refine (Try.Builder_String_any_k W1.heap.size W1.heap.size _ _ (unhide hbl2) hbw2.size).mono ?_
      rintro e W3 ⟨rfl, _, hbw3, _⟩
      replace hbw3 := hbw2.trans hbw3
      go_wp2
      go_ret2
      exact ⟨rfl, below3 hb1 hbw3⟩
end Go.Proofs.Ytilakbhekbamiaa

/-
  What stands ahead of a node's kids, written.
-/
import Derived.Test.YtiknnobgoamgcaaGreatDoorMShMath
import Derived.Test.YtiknnobgoamgcaaGreatDoorB23
import Derived.Test.YtiknnobgoamgcaaGreatDoorB02
import Derived.Test.YtiknnobgoamgcaaGreatDoorB03
import Derived.Test.YtiknnobgoamgcaaGreatDoorMWkRow
import Derived.Lib.OthersKept
namespace Go.Proofs.YtiknnobgoamgcaaGreatDoor
open Go.RowKit Go.Lib Go.Sort
set_option linter.unusedSimpArgs false
set_option linter.unusedVariables false
/-- The bytes of a list as a row's cells. -/
abbrev bc (l : List UInt8) : List Value := Lib.byteCells l
theorem bc_app (a b : List UInt8) : bc (a ++ b) = bc a ++ bc b := by simp [bc, Lib.byteCells]
theorem bc_str (s : ByteArray) : Lib.strCells s = bc s.data.toList := by simp [bc, Lib.byteCells, Lib.strCells]
theorem bc_len (l : List UInt8) : (bc l).length = l.length := by simp [bc, Lib.byteCells]
/-- A builder lies where no row of another kind is written. -/
theorem bld_keep {w w' : World} {B b : Nat} {bs : List Value} (h : Bld w B b bs) (hk : ∀ (x : Nat) (cur : Array Value) (t : Nat) (fr : Nat × Nat), w.heap[x]? = some (.cells cur t fr) → (t = 41 ∨ t = 5) → w'.heap[x]? = w.heap[x]?) : Bld w' B b bs := by
  have key : ∀ p, Lib.BuilderAtF 41 5 B b p bs w → Lib.BuilderAtF 41 5 B b p bs w' := by
    rintro p ⟨hB, v, hb, hown, hne⟩
    refine ⟨hB, v, (hk b _ _ _ hb (.inl rfl)).trans hb, ⟨hown.1, ?_⟩, hne⟩
    rcases hown.2 with h | ⟨g, cap, cur, fz, e, h1, h2, h3⟩
    · exact .inl h
    · exact .inr ⟨g, cap, cur, fz, e, h1, (hk g _ _ _ h2 (.inr rfl)).trans h2, h3⟩
  rcases h with h | h
  · exact .inl (key _ h)
  · exact .inr (key _ h)
theorem NBlk.others {w w' : World} {g b : Nat} {k t : Int} {a : Option Addr} {n c : Nat} (h : NBlk w g k t a n c) (hk : Lib.OthersKept 5 (some b) w w') (hne : g ≠ b) : NBlk w' g k t a n c :=
  hk g _ h (fun e => hne (Option.some.inj e)) (fun c fz e => by
    simp only [Obj.cells.injEq] at e
    exact absurd e.2.1 (by decide))
set_option maxHeartbeats 2000000 in
set_option maxRecDepth 100000 in
theorem shBare_any (k : Int) (w : World) : Calls Tryz.prog 30 #[.int .i64 k] w fun e w' => e = .returned (.bool (bareB k)) ∧ w' = w := by
  have H : ∀ b : Bool, bareB k = b → (e : Ending) → e = .returned (.bool b) → e = .returned (.bool (bareB k)) := fun b hb e he => by rw [hb]; exact he
  go_enter Tryz.func30, Tryz.ntmps30
  go_wp2
  all_goals go_ret
  all_goals (refine ⟨?_, rfl⟩; simp_all [bareB])
/-- So far: the box, the builder, all else. -/
structure ShW (w : World) (B b g : Nat) (k t : Int) (a : Option Addr) (n c : Nat) (bs : List UInt8) (w' : World) : Prop where
  box : NBlk w' g k t a n c
  bld : Bld w' B b (bc bs)
  below : Below B w w'
  oth : Lib.OthersKept 5 (some b) w w'
theorem ShW.step {w : World} {B b g : Nat} {k t : Int} {a : Option Addr} {n c : Nat} {bs : List UInt8} {w1 w2 : World} (h : ShW w B b g k t a n c bs w1) {bs' : List UInt8} {xs : List Value} (hg : g ≠ b) (hbl : Bld w2 B b (bc bs ++ xs)) (hx : xs = bc bs') (hb : Below B w1 w2) (ho : Lib.OthersKept 5 (some b) w1 w2) : ShW w B b g k t a n c (bs ++ bs') w2 :=
  ⟨h.box.others ho hg, by rw [bc_app, ← hx]; exact hbl, h.below.trans hb, h.oth.trans ho⟩
set_option maxHeartbeats 4000000 in
set_option maxRecDepth 100000 in
theorem shOpen_any (W0 : World) (B b : Nat) (bs : List UInt8) (k t : Int) (a : Option Addr) (n c : Nat) (v : Value) (L : List Tk) (w : World) (hT : Tows W0 v L) (hTab : Tab W0) (hw : Below W0.heap.size W0 w) (hWB : W0.heap.size ≤ B) (hBl : Bld w B b (bc bs)) (hBw : B ≤ w.heap.size) (hlen : bs.length + (shO L k t).length ≤ 100000000000) :
    Calls Tryz.prog 18 #[.pointer (some ⟨b, 0, none⟩), .agg #[.int .i64 k, .int .i64 t, .slice a n c], v] w fun e w' => e = .returned (.tuple #[]) ∧ Bld w' B b (bc (bs ++ shO L k t)) ∧ Below B w w' ∧ Lib.OthersKept 5 (some b) w w' := by
  have hblt : B ≤ b ∧ b < w.heap.size := by
    rcases hBl with h | h
    · exact ⟨h.1, h.lt⟩
    · exact ⟨h.1, h.lt⟩
  have hne : w.heap.size ≠ b := by omega
  have h1 : ShW w B b w.heap.size k t a n c bs (w.alloc (.cells #[.int .i64 k, .int .i64 t, .slice a n c] 24 (0, 0))) := ⟨nblk_new w k t a n c, hBl.alloc _, (below_alloc w _).mono hBw, (Lib.OthersKept.refl _ _ w).alloc _⟩
  have hsz : w.heap.size + 1 ≤ (w.alloc (.cells #[.int .i64 k, .int .i64 t, .slice a n c] 24 (0, 0))).heap.size := by simp
  have hO : (shO L k t).length = 1 + (nameK k).size + (if bareB k then [] else [32] ++ txtT L t : List UInt8).length := by
    simp only [shO, List.length_append, List.length_cons, List.length_nil, Array.length_toList]
    rfl
  obtain ⟨gb, hgb⟩ : ∃ gb, w.heap.size = gb := ⟨_, rfl⟩
  rw [hgb] at h1 hne
  obtain ⟨w1, hw1⟩ : ∃ w1, w.alloc (.cells #[.int .i64 k, .int .i64 t, .slice a n c] 24 (0, 0)) = w1 := ⟨_, rfl⟩
  rw [hw1] at h1 hsz
  have hBw1 : B ≤ w1.heap.size := by omega
  have hTabs : ∀ W, Below B w W → Tab W := fun W hW => hTab.below (hw.trans (hW.mono hWB)) (Nat.pos_of_ne_zero (fun h => by have := hTab.lt; omega))
  have hToks : ∀ W, Below B w W → Tows W v L := fun W hW => hT.below (hw.trans (hW.mono hWB))
  replace hTabs := zH hTabs
  replace hToks := zH hToks
  replace h1 := zH h1
  replace hO := zH hO
  clear hT hTab hw hBl hblt
  go_enter Tryz.func18, Tryz.ntmps18
  go_wp2_with fail
  clear hw1
  refine (bByte_any B b _ 40 _ (uH h1).bld (by rw [bc_len]; omega) hBw1).mono ?_
  rintro e w2 ⟨rfl, b2, l2, o2⟩
  have h2 := (uH h1).step (bs' := [40]) hne b2 rfl l2 o2
  have hBw2 : B ≤ w2.heap.size := Nat.le_trans hBw1 l2.size
  obtain ⟨p0, p1, p2⟩ := h2.box.box
  replace h2 := zH h2
  clear b2 l2 o2 h1
  go_wp2_with fail
  refine (ndName_any k _ (uH hTabs _ (uH h2).below)).mono ?_
  rintro e w3 ⟨rfl, rfl⟩
  go_wp2_with fail
  refine (bWrite_any B b _ (nameK k) _ (uH h2).bld (by have := uH hO; rw [bc_len, List.length_append, List.length_cons, List.length_nil]; omega) hBw2).mono ?_
  rintro e w4 ⟨rfl, b2, l2, o2⟩
  have h4 := (uH h2).step (bs' := (nameK k).data.toList) hne b2 (bc_str _) l2 o2
  have hBw4 : B ≤ w4.heap.size := Nat.le_trans hBw2 l2.size
  clear p0 p1 p2 b2 l2 o2 h2
  obtain ⟨p0, p1, p2⟩ := h4.box.box
  replace h4 := zH h4
  go_wp2_with fail
  refine (shBare_any k _).mono ?_
  rintro e w5 ⟨rfl, rfl⟩
  have hS : ∀ X, (if bareB k then [] else [32] ++ txtT L t) = X → bs ++ shO L k t = bs ++ [40] ++ (nameK k).data.toList ++ X := fun X hX => by
    rw [shO, hX]
    simp only [List.append_assoc]
  replace hS := zH hS
  cases hbk : bareB k with
  | true =>
    go_wp2
    refine bodyPost_ret (results_none rfl _ _ _) rfl ?_
    exact ⟨rfl, by rw [uH hS [] (by rw [hbk]; rfl), List.append_nil]; exact (uH h4).bld, (uH h4).below, (uH h4).oth⟩
  | false =>
    have hO2 := uH hO
    rw [hbk] at hO2
    simp only [Bool.false_eq_true, if_false, List.length_append, List.length_cons, List.length_nil] at hO2
    have hl1 : (bs ++ [40] ++ (nameK k).data.toList).length = bs.length + 1 + (nameK k).size := by
      simp only [List.length_append, List.length_cons, List.length_nil, Array.length_toList]
      rfl
    go_wp2_with fail
    refine (bByte_any B b _ 32 _ (uH h4).bld (by rw [bc_len, hl1]; omega) hBw4).mono ?_
    rintro e w6 ⟨rfl, b2, l2, o2⟩
    have h6 := (uH h4).step (bs' := [32]) hne b2 rfl l2 o2
    have hBw6 : B ≤ w6.heap.size := Nat.le_trans hBw4 l2.size
    clear p0 p1 p2 b2 l2 o2 h4
    obtain ⟨p0, p1, p2⟩ := h6.box.box
    obtain ⟨at1, ct1, rfl, hc1, hc2, hTc⟩ := uH hToks _ h6.below
    replace h6 := zH h6
    by_cases ht : 0 ≤ t ∧ t < L.length
    · obtain ⟨ht0, ht1⟩ := ht
      obtain ⟨j, rfl⟩ : ∃ j : Nat, t = (j : Int) := ⟨t.toNat, by omega⟩
      have hj : j < L.length := by omega
      have hX : txtT L j = (tkA L j).s.data.toList := by rw [txtT, if_pos ⟨ht0, ht1⟩]; rfl
      rw [hX] at hO2
      obtain ⟨g9, o9, rfl, hg9, hc9⟩ := hTc (by omega)
      obtain ⟨j0, j1, j2, j3, j4⟩ := tkW_at hc9 hj
      have hsl : (tkA L j).s.data.toList.length = (tkA L j).s.size := by rw [Array.length_toList]; try rfl
      clear j0 j2 j3 j4 hc9
      go_wp2_with fail
      refine (bWrite_any B b _ (tkA L j).s _ (uH h6).bld (by rw [bc_len, List.length_append, hl1, List.length_cons, List.length_nil]; omega) hBw6).mono ?_
      rintro e w7 ⟨rfl, b2, l2, o2⟩
      have h7 := (uH h6).step (bs' := (tkA L j).s.data.toList) hne b2 (bc_str _) l2 o2
      rw [List.append_assoc _ [32]] at h7
      replace h7 := zH h7
      go_wp2
      go_end0
      exact ⟨rfl, by rw [uH hS ([32] ++ txtT L j) (by rw [hbk]; rfl), hX]; exact (uH h7).bld, (uH h7).below, (uH h7).oth⟩
    · have hX : txtT L t = [] := by rw [txtT, if_neg ht]
      by_cases ht0 : 0 ≤ t
      · have ht1 : ¬ t < L.length := fun h => ht ⟨ht0, h⟩
        go_wp2
        go_end0
        exact ⟨rfl, by rw [uH hS ([32] ++ txtT L t) (by rw [hbk]; rfl), hX, List.append_nil]; exact (uH h6).bld, (uH h6).below, (uH h6).oth⟩
      · go_wp2
        go_end0
        exact ⟨rfl, by rw [uH hS ([32] ++ txtT L t) (by rw [hbk]; rfl), hX, List.append_nil]; exact (uH h6).bld, (uH h6).below, (uH h6).oth⟩
end Go.Proofs.YtiknnobgoamgcaaGreatDoor

/-
  The pile: Len, Less, Swap.
-/
import Derived.Test.YtpjpghigilbfaaaEdRow
import Derived.Test.YtpjpghigilbfaaaHpMath
import Derived.Test.YtpjpghigilbfaaaMgOrd
import Derived.Test.YtpjpghigilbfaaaWrap
import Derived.BigQuiet
import Derived.BigRegion
import Derived.WalkSmall
import Derived.Shelf.SlSortCmp.QuietGrown
namespace Go.Proofs.Ytpjpghigilbfaaa
open Go.RowKit Go.Lib Go.Sort
set_option linter.unusedSimpArgs false
set_option linter.unusedVariables false
theorem pileLen_any (a : Option Addr) (n c : Nat) (w : World) : Calls Try.prog 70 #[.slice a n c] w fun e w' => e = .returned (.int .i64 n) ∧ w' = w := by
  go_enter Try.func70, Try.ntmps70
  go_wp2
  go_ret
  exact ⟨rfl, rfl⟩
set_option maxHeartbeats 2000000 in
set_option maxRecDepth 100000 in
theorem pileLess_any (g cap i j : Nat) (H : List Ed) (w : World) (h : RowE w g cap H) (hi : i < H.length) (hj : j < H.length) :
    Calls Try.prog 71 #[.slice (some ⟨g, 0, none⟩) H.length cap, .int .i64 i, .int .i64 j] w fun e w' => e = .returned (.bool (ltE (H.getD i ed0) (H.getD j ed0))) ∧ ∃ q os, w' = grow (w.drewN q) os := by
  have mixed : Try.prog.follows .mixedOrders = true := by kernel_rfl
  obtain ⟨n, hn⟩ : ∃ n, H.length = n := ⟨_, rfl⟩
  obtain ⟨x0, x1, x2⟩ := h.at i hi
  obtain ⟨y0, y1, y2⟩ := h.at j hj
  have hlt := h.lt
  have X0 := fun n os => cell_grown (show g < _ from hlt) x0 n os
  have X1 := fun n os => cell_grown (show g < _ from hlt) x1 n os
  have X2 := fun n os => cell_grown (show g < _ from hlt) x2 n os
  have Y0 := fun n os => cell_grown (show g < _ from hlt) y0 n os
  have Y1 := fun n os => cell_grown (show g < _ from hlt) y1 n os
  have Y2 := fun n os => cell_grown (show g < _ from hlt) y2 n os
  have hroom := h.room
  rw [hn] at hi hj hroom ⊢
  unfold maxLen at hroom
  have hiz : (i : Int) < n := by omega
  have hjz : (j : Int) < n := by omega
  have ho := hide (fun W => order_any (H.getD i ed0) (H.getD j ed0) W)
  have hlE : Hid (decide (cmpE (H.getD i ed0) (H.getD j ed0) < 0) = ltE (H.getD i ed0) (H.getD j ed0)) := hide rfl
  clear x0 x1 x2 y0 y1 y2 h
  generalize H.getD i ed0 = X at *
  generalize H.getD j ed0 = Y at *
  obtain ⟨xp, xn, xs⟩ := X
  obtain ⟨yp, yn, ys⟩ := Y
  dsimp only at *
  generalize cmpE ⟨xp, xn, xs⟩ ⟨yp, yn, ys⟩ = C at *
  go_enter Try.func71, Try.ntmps71
  go_wp2
  go_quiet_grown (first | (go_at_call 23; exact Calls.grown_of (unhide ho _)))
  go_wp2
  go_ret
  exact ⟨ret_bool (unhide hlE), nq, osq, rfl⟩
theorem getD_set (H : List Ed) (i j : Nat) (e : Ed) (hj : j < H.length) : (H.set i e).getD j ed0 = if i = j then e else H.getD j ed0 := by
  simp only [List.getD, List.getElem?_set]
  by_cases h : i = j
  · subst h; simp [hj]
  · simp [h]
theorem grown_set (w : World) (g o : Nat) (u : Value) : w.grownBy (w.setCell ⟨g, o, none⟩ u) (some g) :=
  ⟨rfl, rfl, rfl, by simp, fun k _ hk => Below.heap_setCell _ _ _ k (fun h => hk (by rw [h]))⟩
theorem _root_.Go.World.grownBy.trans1 {a b c : World} {r : Option Nat} (h : a.grownBy b r) (k : b.grownBy c r) : a.grownBy c r :=
  ⟨k.os.trans h.os, k.tape.trans h.tape, k.output.trans h.output, Nat.le_trans h.size k.size, fun i hi hne => (k.block i (Nat.lt_of_lt_of_le hi h.size) hne).trans (h.block i hi hne)⟩
theorem RowE.drew {w : World} {g cap : Nat} {L : List Ed} (h : RowE w g cap L) : RowE w.drew g cap L := h
theorem grown_drew {a b : World} {r : Option Nat} (K : a.grownBy b r) : a.grownBy b.drew r := ⟨K.os, K.tape, K.output, K.size, K.block⟩
set_option maxHeartbeats 1000000 in
set_option maxRecDepth 100000 in
theorem pileSwap_any (g cap i j : Nat) (H : List Ed) (w : World) (h : RowE w g cap H) (hi : i < H.length) (hj : j < H.length) :
    Calls Try.prog 72 #[.slice (some ⟨g, 0, none⟩) H.length cap, .int .i64 i, .int .i64 j] w fun e w' => e = .returned (.tuple #[]) ∧ RowE w' g cap (swpL H i j) ∧ w.grownBy w' (some g) := by
  obtain ⟨n, hn⟩ : ∃ n, H.length = n := ⟨_, rfl⟩
  obtain ⟨x0, x1, x2⟩ := h.at i hi
  obtain ⟨y0, y1, y2⟩ := h.at j hj
  have hroom := h.room
  have hF := fun k => h.frozen k
  have hfin := (h.set i (H.getD j ed0) hi).set j (H.getD i ed0) (by simpa using hj)
  change RowE _ g cap (swpL H i j) at hfin
  rw [hn] at hi hj hroom ⊢
  unfold maxLen at hroom
  have hiz : (i : Int) < n := by omega
  have hjz : (j : Int) < n := by omega
  generalize swpL H i j = S at *
  generalize H.getD i ed0 = X at *
  generalize H.getD j ed0 = Y at *
  obtain ⟨xp, xn, xs⟩ := X
  obtain ⟨yp, yn, ys⟩ := Y
  dsimp only [Ed.cells, World.setCells] at *
  simp only [Nat.add_assoc, Nat.reduceAdd] at hfin
  replace hfin := hide hfin
  have f0 := hF (i * 3)
  have f1 := hF (i * 3 + 1)
  have f2 := hF (i * 3 + 2)
  have k0 := hF (j * 3)
  have k1 := hF (j * 3 + 1)
  have k2 := hF (j * 3 + 2)
  clear hF
  replace h := hide h
  have hgr : Hid (∀ (a b c d e f : Value) (W : World), W.grownBy ((((((W.setCell ⟨g, i * 3, none⟩ a).setCell ⟨g, i * 3 + 1, none⟩ b).setCell ⟨g, i * 3 + 2, none⟩ c).setCell ⟨g, j * 3, none⟩ d).setCell ⟨g, j * 3 + 1, none⟩ e).setCell ⟨g, j * 3 + 2, none⟩ f) (some g)) :=
    hide (fun a b c d e f W => ((((((grown_set W g _ a).trans1 (grown_set _ g _ b)).trans1 (grown_set _ g _ c)).trans1 (grown_set _ g _ d)).trans1 (grown_set _ g _ e)).trans1 (grown_set _ g _ f)))
  have O : ∀ (W : World) (a b : Nat) (u v : Value), a ≠ b → W.cell? ⟨g, b, none⟩ = some v → (W.setCell ⟨g, a, none⟩ u).cell? ⟨g, b, none⟩ = some v := by
    intro W a b u v hab hv
    rw [← hv]
    apply World.cell?_setCell_other
    intro h
    injection h with _ h
    exact hab h
  have P : ∀ (W : World) (a b : Nat) (v : Value), W.cell? ⟨g, b, none⟩ = some v → (W.setCell ⟨g, a, none⟩ v).cell? ⟨g, b, none⟩ = some v := by
    intro W a b v hv
    by_cases hab : a = b
    · subst hab; exact World.cell?_setCell_same' _ _ _ (by rw [hv]; rfl)
    · exact O W a b v v hab hv
  have p0 := P w (i * 3) (j * 3) _ y0
  have p1 := P _ (i * 3 + 1) (j * 3 + 1) _ (O w (i * 3) (j * 3 + 1) (.int .i64 yp) _ (by omega) y1)
  have p2 := P _ (i * 3 + 2) (j * 3 + 2) _ (O _ (i * 3 + 1) (j * 3 + 2) (.int .i64 yn) _ (by omega) (O w (i * 3) (j * 3 + 2) (.int .i64 yp) _ (by omega) y2))
  clear O
  clear P
  go_enter Try.func72, Try.ntmps72
  go_wp2
  go_region
  go_wp2
  go_end0
  have K := unhide hgr (.int .i64 yp) (.int .i64 yn) (.string ys) (.int .i64 xp) (.int .i64 xn) (.string xs) w
  exact ⟨rfl, RowE.drew (unhide hfin), grown_drew K⟩
end Go.Proofs.Ytpjpghigilbfaaa

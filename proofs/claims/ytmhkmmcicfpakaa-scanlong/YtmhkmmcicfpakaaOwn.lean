/-
  A row of bytes that the call made and writes cell by cell; that a draw turns nothing.
-/
import Derived.Test.YtmhkmmcicfpakaaMem
import Derived.Deep.Draws
import Derived.WalkSmall
import Derived.Lib.SmallJoins
namespace Go.Proofs.Ytmhkmmcicfpakaa
open Go.RowKit
/-- Block g is the call's own row of just these bytes. -/
def OwnB (w : World) (g : Nat) (xs : List Int) : Prop := w.heap[g]? = some (.cells (xs.map (Value.int .u8)).toArray 5 (0, 0))
theorem OwnB.cell {w : World} {g : Nat} {xs : List Int} (h : OwnB w g xs) (i : Nat) (hi : i < xs.length) : w.cell? ⟨g, i, none⟩ = some (.int .u8 (xs.getD i 0)) := by
  rw [Joins.cell_of_block h i]
  simp [List.getD, hi]
theorem OwnB.frozen {w : World} {g : Nat} {xs : List Int} (h : OwnB w g xs) (i : Nat) : w.frozen? ⟨g, i, none⟩ = false := Joins.unfrozen_of_block h i
theorem OwnB.set {w : World} {g : Nat} {xs : List Int} (h : OwnB w g xs) (i : Nat) (x : Int) : OwnB (w.setCell ⟨g, i, none⟩ (.int .u8 x)) g (xs.set i x) := by
  have := Joins.block_setCell (i := i) h (.int .u8 x)
  unfold OwnB
  rw [this]
  simp [List.map_set]
theorem OwnB.lt {w : World} {g : Nat} {xs : List Int} (h : OwnB w g xs) : g < w.heap.size := (Array.getElem?_eq_some_iff.1 h).1
theorem OwnB.drewN {w : World} {g : Nat} {xs : List Int} (h : OwnB w g xs) (n : Nat) : OwnB (w.drewN n) g xs := h
theorem OwnB.bts {w : World} {g : Nat} {xs : List Int} (h : OwnB w g xs) (hx : Byt xs) (hl : xs.length ≤ 140737488355328) : Bts w (.slice (some ⟨g, 0, none⟩) xs.length xs.length) xs :=
  Bts.ofCells hx hl (Nat.le_refl _) (by omega) h.lt (fun i hi => by rw [Nat.zero_add]; exact h.cell i hi)
theorem Bts.of_heap {w w' : World} {v : Value} {xs : List Int} (h : Bts w v xs) (hh : w'.heap = w.heap) : Bts w' v xs := by
  have hc : ∀ a, w'.cell? a = w.cell? a := fun a => by unfold World.cell?; rw [hh]
  refine ⟨h.1, h.2.1, ?_⟩
  rcases h.2.2 with h | ⟨b, off, cap, rfl, h1, h2, h3, h4, h5⟩
  · exact .inl h
  · exact .inr ⟨b, off, cap, rfl, h1, h2, h3, by rw [hh]; exact h4, fun i hi => by rw [hc]; exact h5 i hi⟩
theorem Bts.drewN {w : World} {v : Value} {xs : List Int} (h : Bts w v xs) (n : Nat) : Bts (w.drewN n) v xs := h.of_heap rfl
/-- What make leaves. -/
theorem OwnB.made {w : World} {base g n : Nat} {xs : List Int} (h : w.ownsRow base 5 1 (.slice (some ⟨g, 0, none⟩) n n) n (xs.map (Value.int .u8))) : OwnB w g xs := by
  rcases h.2 with ⟨h1, _⟩ | ⟨g', cap, cur, he, hb, hg, hnc, hcm, hcs, ht⟩
  · simp at h1
  · simp only [Value.slice.injEq, Option.some.injEq, Addr.mk.injEq] at he
    obtain ⟨⟨rfl, _⟩, _, rfl⟩ := he
    unfold OwnB
    rw [hg]
    congr 2
    rw [← ht, List.take_of_length_le (by simp; omega)]
theorem made_zeros (n : Nat) : (madeCells #[Value.int .u8 0] n).toList = (List.replicate n (0 : Int)).map (Value.int .u8) := by
  apply List.ext_getElem?
  intro i
  by_cases hi : i < n
  · simp [madeCells, hi, Nat.mod_one]
  · simp [madeCells, hi]
/-- One cell more is written. -/
theorem set_next (X : List Int) (n k : Nat) (h : k < n) (hX : X.length = n) : (X.take k ++ List.replicate (n - k) (0 : Int)).set k (X.getD k 0) = X.take (k + 1) ++ List.replicate (n - (k + 1)) (0 : Int) := by
  have e : n - k = (n - (k + 1)) + 1 := by omega
  have hl : (X.take k).length = k := by simp; omega
  rw [e, List.replicate_succ, List.set_append_right _ _ (by omega), hl, Nat.sub_self, List.set_cons_zero, List.take_add_one, List.append_assoc]
  congr 1
  simp [List.getD, show k < X.length by omega]
/-- Block g is the call's own row that begins with these bytes; it may have more room. -/
def OwnP (w : World) (g : Nat) (xs : List Int) : Prop := ∃ cur, w.heap[g]? = some (.cells cur 5 (0, 0)) ∧ cur.toList.take xs.length = xs.map (Value.int .u8)
theorem OwnP.cell {w : World} {g : Nat} {xs : List Int} (h : OwnP w g xs) (i : Nat) (hi : i < xs.length) : w.cell? ⟨g, i, none⟩ = some (.int .u8 (xs.getD i 0)) := by
  obtain ⟨cur, hg, ht⟩ := h
  rw [Joins.cell_of_block hg i]
  have := congrArg (·[i]?) ht
  simp only [List.getElem?_take, hi, if_true, List.getElem?_map] at this
  rw [Array.getElem?_toList] at this
  rw [this]
  simp [List.getD, hi]
theorem OwnP.frozen {w : World} {g : Nat} {xs : List Int} (h : OwnP w g xs) (i : Nat) : w.frozen? ⟨g, i, none⟩ = false := by
  obtain ⟨cur, hg, _⟩ := h
  exact Joins.unfrozen_of_block hg i
theorem OwnP.lt {w : World} {g : Nat} {xs : List Int} (h : OwnP w g xs) : g < w.heap.size := by
  obtain ⟨cur, hg, _⟩ := h
  exact (Array.getElem?_eq_some_iff.1 hg).1
theorem OwnP.set {w : World} {g : Nat} {xs : List Int} (h : OwnP w g xs) (i : Nat) (x : Int) : OwnP (w.setCell ⟨g, i, none⟩ (.int .u8 x)) g (xs.set i x) := by
  obtain ⟨cur, hg, ht⟩ := h
  refine ⟨cur.setIfInBounds i (.int .u8 x), Joins.block_setCell (i := i) hg (.int .u8 x), ?_⟩
  rw [List.length_set, Array.toList_setIfInBounds, List.map_set, ← ht, List.take_set]
theorem OwnP.bts {w : World} {g cap : Nat} {xs : List Int} (h : OwnP w g xs) (hx : Byt xs) (hl : xs.length ≤ 140737488355328) (hc : xs.length ≤ cap) (hm : cap ≤ 9223372036854775807) : Bts w (.slice (some ⟨g, 0, none⟩) xs.length cap) xs :=
  Bts.ofCells hx hl hc hm h.lt (fun i hi => by rw [Nat.zero_add]; exact h.cell i hi)
/-- What append leaves. -/
theorem OwnP.made {w : World} {base : Nat} {v : Value} {n : Nat} {xs : List Int} (h : w.ownsRow base 5 1 v n (xs.map (Value.int .u8))) (hn : xs.length = n) (h0 : 0 < n) : ∃ g cap, v = .slice (some ⟨g, 0, none⟩) n cap ∧ base ≤ g ∧ n ≤ cap ∧ cap ≤ 9223372036854775807 ∧ OwnP w g xs := by
  rcases h.2 with ⟨_, h1⟩ | ⟨g, cap, cur, he, hb, hg, hnc, hcm, hcs, ht⟩
  · omega
  · exact ⟨g, cap, he, hb, hnc, by unfold maxLen at hcm; omega, cur, hg, by rw [hn]; simpa using ht⟩
end Go.Proofs.Ytmhkmmcicfpakaa

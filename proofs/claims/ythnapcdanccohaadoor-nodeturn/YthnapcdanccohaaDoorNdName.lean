/-
  What nodes of a kind are called: the program's table, the reference's list.
-/
import Derived.Test.YthnapcdanccohaaDoorNdRef
import Derived.Deep.DeepCutAuto
namespace Go.Proofs.YthnapcdanccohaaDoor
open Go.RowKit Go.Lib Go.Sort
set_option linter.unusedSimpArgs false
set_option linter.unusedVariables false
def nmR : List ByteArray := [⟨#[102, 105, 108, 101]⟩, ⟨#[112, 97, 99, 107, 97, 103, 101]⟩, ⟨#[105, 109, 112, 111, 114, 116]⟩, ⟨#[118, 97, 114]⟩, ⟨#[99, 111, 110, 115, 116]⟩, ⟨#[115, 116, 114, 117, 99, 116]⟩, ⟨#[102, 105, 101, 108, 100]⟩, ⟨#[102, 117, 110, 99]⟩, ⟨#[112, 97, 114, 97, 109]⟩, ⟨#[98, 108, 111, 99, 107]⟩, ⟨#[100, 101, 102, 105, 110, 101]⟩, ⟨#[100, 111]⟩, ⟨#[97, 115, 115, 105, 103, 110]⟩, ⟨#[105, 102]⟩, ⟨#[102, 111, 114]⟩, ⟨#[114, 101, 116, 117, 114, 110]⟩, ⟨#[98, 114, 101, 97, 107]⟩, ⟨#[99, 111, 110, 116, 105, 110, 117, 101]⟩, ⟨#[108, 97, 98, 101, 108]⟩, ⟨#[110, 97, 109, 101]⟩, ⟨#[105, 110, 116]⟩, ⟨#[115, 116, 114, 105, 110, 103]⟩, ⟨#[117, 110, 97, 114, 121]⟩, ⟨#[98, 105, 110, 97, 114, 121]⟩, ⟨#[112, 97, 114, 101, 110]⟩, ⟨#[99, 97, 108, 108]⟩, ⟨#[115, 101, 108, 101, 99, 116]⟩, ⟨#[116, 121, 112, 101]⟩]
def nmL : List ByteArray := ⟨#[]⟩ :: nmR
def nameK (z : Int) : ByteArray := if z < 0 ∨ 29 ≤ z then ⟨#[]⟩ else nmL.getD z.toNat ⟨#[]⟩
/-- The program's table lies as it was laid. -/
def Tab (w : World) : Prop := ∀ i, i < 29 → w.cell? ⟨0, i, none⟩ = some (.string (nmL.getD i ⟨#[]⟩))
theorem Tab.lt {w : World} (h : Tab w) : 0 < w.heap.size := World.block_lt_of_cell? w _ (h 0 (by omega))
theorem Tab.below {w w' : World} (h : Tab w) {B : Nat} (hb : Below B w w') (hB : 0 < B) : Tab w' := fun i hi => by
  rw [hb.cell (by exact hB)]
  exact h i hi
theorem Tab.of {w w' : World} (h : Tab w) (hb : Below w.heap.size w w') : Tab w' := h.below hb h.lt
theorem ret_str {a b : ByteArray} (h : a = b) : Ending.returned (.string a) = .returned (.string b) := by rw [h]
set_option maxHeartbeats 2000000 in
set_option maxRecDepth 100000 in
theorem ndName_any (z : Int) (w : World) (hT : Tab w) : Calls Tryd.prog 14 #[.int .i64 z] w fun e w' => e = .returned (.string (nameK z)) ∧ w' = w := by
  by_cases h0 : z < 0
  · have hk : Hid (nameK z = ⟨#[]⟩) := hide (by rw [nameK, if_pos (.inl h0)])
    have hd : decide (z < 0) = true := decide_eq_true h0
    go_enter Tryd.func14, Tryd.ntmps14
    go_wp2
    go_ret
    exact ⟨ret_str (unhide hk).symm, rfl⟩
  · have hd : decide (z < 0) = false := decide_eq_false h0
    by_cases h1 : 29 ≤ z
    · have hk : Hid (nameK z = ⟨#[]⟩) := hide (by rw [nameK, if_pos (.inr h1)])
      have hd1 : decide (29 ≤ z) = true := decide_eq_true h1
      go_enter Tryd.func14, Tryd.ntmps14
      go_wp2
      go_ret
      exact ⟨ret_str (unhide hk).symm, rfl⟩
    · have hd1 : decide (29 ≤ z) = false := decide_eq_false h1
      obtain ⟨j, rfl⟩ : ∃ j : Nat, z = (j : Int) := ⟨z.toNat, by omega⟩
      have hk : Hid (nameK (j : Int) = nmL.getD j ⟨#[]⟩) := hide (by rw [nameK, if_neg (by omega)]; rfl)
      have hc := hT j (by omega)
      have hj : (j : Int) < 29 := by omega
      have hj2 : j < 29 := by omega
      generalize nmL.getD j ⟨#[]⟩ = s at *
      clear hT
      go_enter Tryd.func14, Tryd.ntmps14
      go_wp2
      go_ret
      exact ⟨ret_str (unhide hk).symm, rfl⟩
theorem lit_cell (W : World) (j : Nat) (hj : j < 28) : (W.alloc (.cells (nmR.map Value.string).toArray 9 (0, 0))).cell? ⟨W.heap.size, j, none⟩ = some (.string (nmR.getD j ⟨#[]⟩)) := by
  have hl : nmR.length = 28 := rfl
  rw [World.cell?_alloc_mark]
  simp [List.getD, show j < nmR.length by omega]
set_option maxHeartbeats 4000000 in
set_option maxRecDepth 100000 in
theorem rNameN_any (z : Int) (w : World) (hz : -9223372036854775808 ≤ z ∧ z ≤ 9223372036854775807) : Calls Tryd.prog 15 #[.int .i64 z] w fun e w' => e = .returned (.string (nameK z)) ∧ Below w.heap.size w w' := by
  have hb := below_alloc w (.cells (nmR.map Value.string).toArray 9 (0, 0))
  have hcell := lit_cell w
  simp only [nmR, List.map_cons, List.map_nil] at hb hcell
  by_cases h0 : z < 1
  · have hk : Hid (nameK z = ⟨#[]⟩) := hide (by
      by_cases h : z < 0
      · rw [nameK, if_pos (.inl h)]
      · obtain rfl : z = 0 := by omega
        rfl)
    have hd : decide (z < 1) = true := decide_eq_true h0
    replace hb := hide hb
    clear hcell
    go_enter Tryd.func15, Tryd.ntmps15
    go_wp2
    go_ret
    exact ⟨ret_str (unhide hk).symm, unhide hb⟩
  · have hd : decide (z < 1) = false := decide_eq_false h0
    by_cases h1 : 28 < z
    · have hk : Hid (nameK z = ⟨#[]⟩) := hide (by rw [nameK, if_pos (.inr (by omega))])
      have hd1 : decide (28 < z) = true := decide_eq_true h1
      replace hb := hide hb
      clear hcell
      go_enter Tryd.func15, Tryd.ntmps15
      go_wp2
      go_ret
      exact ⟨ret_str (unhide hk).symm, unhide hb⟩
    · have hd1 : decide (28 < z) = false := decide_eq_false h1
      obtain ⟨j, rfl⟩ : ∃ j : Nat, z = (j : Int) + 1 := ⟨(z - 1).toNat, by omega⟩
      have hk : Hid (nameK ((j : Int) + 1) = nmR.getD j ⟨#[]⟩) := hide (by
        rw [nameK, if_neg (by omega), show ((j : Int) + 1).toNat = j + 1 by omega]
        rfl)
      have hc := hcell j (by omega)
      have hm1 : (j : Int) + 1 - 1 = j := by omega
      have hj : (j : Int) < 28 := by omega
      have hj2 : j < 28 := by omega
      have hw : IntKind.i64.wrap ((j : Int) + 1 - 1) = j := by rw [wrapI _ (by omega) (by omega)]; omega
      replace hb := hide hb
      obtain ⟨s, hs⟩ : ∃ s, nmR.getD j ⟨#[]⟩ = s := ⟨_, rfl⟩
      rw [show ([⟨#[102, 105, 108, 101]⟩, ⟨#[112, 97, 99, 107, 97, 103, 101]⟩, ⟨#[105, 109, 112, 111, 114, 116]⟩, ⟨#[118, 97, 114]⟩, ⟨#[99, 111, 110, 115, 116]⟩, ⟨#[115, 116, 114, 117, 99, 116]⟩, ⟨#[102, 105, 101, 108, 100]⟩, ⟨#[102, 117, 110, 99]⟩, ⟨#[112, 97, 114, 97, 109]⟩, ⟨#[98, 108, 111, 99, 107]⟩, ⟨#[100, 101, 102, 105, 110, 101]⟩, ⟨#[100, 111]⟩, ⟨#[97, 115, 115, 105, 103, 110]⟩, ⟨#[105, 102]⟩, ⟨#[102, 111, 114]⟩, ⟨#[114, 101, 116, 117, 114, 110]⟩, ⟨#[98, 114, 101, 97, 107]⟩, ⟨#[99, 111, 110, 116, 105, 110, 117, 101]⟩, ⟨#[108, 97, 98, 101, 108]⟩, ⟨#[110, 97, 109, 101]⟩, ⟨#[105, 110, 116]⟩, ⟨#[115, 116, 114, 105, 110, 103]⟩, ⟨#[117, 110, 97, 114, 121]⟩, ⟨#[98, 105, 110, 97, 114, 121]⟩, ⟨#[112, 97, 114, 101, 110]⟩, ⟨#[99, 97, 108, 108]⟩, ⟨#[115, 101, 108, 101, 99, 116]⟩, ⟨#[116, 121, 112, 101]⟩] : List ByteArray).getD j ⟨#[]⟩ = s from hs] at hc
      rw [hs] at hk
      replace hs := hide hs
      clear hcell
      go_enter Tryd.func15, Tryd.ntmps15
      go_wp2
      go_ret
      exact ⟨ret_str (unhide hk).symm, unhide hb⟩
end Go.Proofs.YthnapcdanccohaaDoor

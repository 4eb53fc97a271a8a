/-
  What the tied rows' condition gives: the table of package crc lies as its initialiser wrote it. (The witness starts in the heap that the initialisers' own run leaves.)
-/
import Derived.Test.YtjnempfjoebojaaDoorCrcWalk
import Derived.Lib.LaidTab
import Derived.LaidMore
import Derived.ProofKit
namespace Go.Proofs.YtjnempfjoebojaaDoor
open Go.RowKit
def laidL : List (String × DataW Unit) := [("recension/crc.steps", Rows.laid_recension_crc_steps)]
theorem laid_door (os : Os) (args : Array Value) : laidMetH Tryd.prog laidL ((World.doorLaid Tryd.prog 14 os).forCall (fun _ _ => 0) ⟨#[], args, []⟩).memory :=
  laidMetH_of_parts3 (fuel := 8) (laidMet_of_run' 8 (by kernel_rfl) (by kernel_rfl)) (by kernel_rfl) (by kernel_rfl)
theorem steps_named : Tryd.prog.globalNamed "recension/crc.steps" = some 0 := by kernel_rfl
theorem steps_type : (Tryd.prog.globals[0]?).map (·.type) = some 35 := by kernel_rfl
theorem steps_cells : Tryd.prog.cellsOf 35 = 16 := by kernel_rfl
theorem uint32_cells : Tryd.prog.cellsOf 25 = 1 := by kernel_rfl
theorem tabs_of_laid {W : World} (h : laidMetH Tryd.prog laidL W) : Tab W := by
  rw [MakeChecks.laidMetH_plain _ _ _ (by kernel_rfl)] at h
  have h1 : laidMet Tryd.prog (("recension/crc.steps", Lib.tabData .u32 (tabL.map fun (n : Nat) => (n : Int))) :: []) W := h
  have h2 := Lib.tabIs_of_head steps_named steps_type Tryd.underlying35 Tryd.underlying25 uint32_cells steps_cells h1
  intro i hi
  rw [h2.cell steps_named i (by simpa [tabL] using hi)]
  congr 2
  have : i < tabL.length := hi
  simp [List.getD, this]
end Go.Proofs.YtjnempfjoebojaaDoor

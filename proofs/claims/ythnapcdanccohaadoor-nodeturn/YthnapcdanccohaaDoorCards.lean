/-
  DERIVED. GIVEN WITH THE SEED: THE CARDS: each row of YthnapcdanccohaaDoorRows.lean that lists a variable, with what it lists TIED to the program's text (the seventh form; the later family's looks); each row that meets fmt, with fmt's text TOLD by the authors' own Lean function (tested against real Go, not proved from fmt's source: count such statements apart). THE CARD IS WHAT COUNTS. Prove the row's statement (the work); the ties are given (YthnapcdanccohaaDoorTie.lean); close each card by the builder's one call (the guide's Derived/Test/ToyasCard.lean, 'card_holds'). Laid BY PROGRAM, IN A SANDBOX (cutbox-door.mjs). By AI agents, Wed Nov 11 2026. No macro, syntax, notation, axiom, sorry.
-/
import Derived.Test.YthnapcdanccohaaDoorRows
import GoSem.ClaimSeven
namespace Go.Proofs.YthnapcdanccohaaDoor
namespace Rows

/-- THE TIED CARD OF 'recensionlaw10.NodeAll'. -/
def nodeAllCard : Claim7 := { stood := { row := nodeAllRow, standIns := [], harness := (true, "ab679aafe0f50963efd435298163b603d767a43094f52a0007a7fd7bfdf2f1eb"), looks := false }, kinds := [], alts := [], laidByText := true, laidKinds := [.data], laidTests := true, laidLooks := .later }
def NodeAllCardSaid : Prop := Claim7.holds Tryd.pinned (.plain (OpenSpec.ofChange nodeAllSpec)) nodeAllCard

/-- THE TIED CARD OF 'recensionlaw10.NodeTurn'. -/
def nodeTurnCard : Claim7 := { stood := { row := nodeTurnRow, standIns := [], harness := (true, "ab679aafe0f50963efd435298163b603d767a43094f52a0007a7fd7bfdf2f1eb"), looks := false }, kinds := [], alts := [], laidByText := true, laidKinds := [.data], laidTests := true, laidLooks := .later }
def NodeTurnCardSaid : Prop := Claim7.holds Tryd.pinned (.plain (OpenSpec.ofChange nodeTurnSpec)) nodeTurnCard

/-- THE TIED CARD OF 'recensionlaw10.NodeBuild'. -/
def nodeBuildCard : Claim7 := { stood := { row := nodeBuildRow, standIns := [], harness := (true, "ab679aafe0f50963efd435298163b603d767a43094f52a0007a7fd7bfdf2f1eb"), looks := false }, kinds := [], alts := [], laidByText := true, laidKinds := [.data], laidTests := true, laidLooks := .later }
def NodeBuildCardSaid : Prop := Claim7.holds Tryd.pinned (.plain (OpenSpec.ofChange nodeBuildSpec)) nodeBuildCard

/-- THE SECOND FORM's CARD OF 'recensionlaw10.NodeAll'. -/
def nodeAllUptoCard : Claim7 := { stood := { row := nodeAllUptoRow, standIns := [], harness := (true, "ab679aafe0f50963efd435298163b603d767a43094f52a0007a7fd7bfdf2f1eb"), looks := false }, kinds := [], alts := [], laidByText := true, laidKinds := [.data], laidTests := true, laidLooks := .later }
def NodeAllUptoCardSaid : Prop := Claim7.holds Tryd.pinned (.plain (OpenSpec.upto nodeAllSpec)) nodeAllUptoCard

/-- THE SECOND FORM's CARD OF 'recensionlaw10.NodeTurn'. -/
def nodeTurnUptoCard : Claim7 := { stood := { row := nodeTurnUptoRow, standIns := [], harness := (true, "ab679aafe0f50963efd435298163b603d767a43094f52a0007a7fd7bfdf2f1eb"), looks := false }, kinds := [], alts := [], laidByText := true, laidKinds := [.data], laidTests := true, laidLooks := .later }
def NodeTurnUptoCardSaid : Prop := Claim7.holds Tryd.pinned (.plain (OpenSpec.upto nodeTurnSpec)) nodeTurnUptoCard

/-- THE SECOND FORM's CARD OF 'recensionlaw10.NodeBuild'. -/
def nodeBuildUptoCard : Claim7 := { stood := { row := nodeBuildUptoRow, standIns := [], harness := (true, "ab679aafe0f50963efd435298163b603d767a43094f52a0007a7fd7bfdf2f1eb"), looks := false }, kinds := [], alts := [], laidByText := true, laidKinds := [.data], laidTests := true, laidLooks := .later }
def NodeBuildUptoCardSaid : Prop := Claim7.holds Tryd.pinned (.plain (OpenSpec.upto nodeBuildSpec)) nodeBuildUptoCard
end Rows
end Go.Proofs.YthnapcdanccohaaDoor

/-
  DERIVED. GIVEN WITH THE SEED: THE CARDS: each row of YtiknnobgoamgcaaGreatDoorRows.lean that lists a variable, with what it lists TIED to the program's text (the seventh form; the later family's looks); each row that meets fmt, with fmt's text TOLD by the authors' own Lean function (tested against real Go, not proved from fmt's source: count such statements apart). THE CARD IS WHAT COUNTS. Prove the row's statement (the work); the ties are given (YtiknnobgoamgcaaGreatDoorTie.lean); close each card by the builder's one call (the guide's Derived/Test/ToyasCard.lean, 'card_holds'). Laid BY PROGRAM, IN A SANDBOX (cutbox-door.mjs). By AI agents, Wed Nov 11 2026. No macro, syntax, notation, axiom, sorry.
-/
import Derived.Test.YtiknnobgoamgcaaGreatDoorRows
import GoSem.ClaimSeven
namespace Go.Proofs.YtiknnobgoamgcaaGreatDoor
namespace Rows

/-- THE TIED CARD OF 'recensionlaw12.ShapeAny'. -/
def shapeAnyCard : Claim7 := { stood := { row := shapeAnyRow, standIns := [], harness := (true, "de1c16617fcf4028535027667259b84d02278494677867dbc7e1d8a271bdfc67"), looks := false }, kinds := [], alts := [], laidByText := true, laidKinds := [.data], laidTests := true, laidLooks := .later }
def ShapeAnyCardSaid : Prop := Claim7.holds Tryz.pinned (.plain (OpenSpec.ofChange shapeAnySpec)) shapeAnyCard

/-- THE TIED CARD OF 'recensionlaw12.ShapeBlanks'. -/
def shapeBlanksCard : Claim7 := { stood := { row := shapeBlanksRow, standIns := [], harness := (true, "de1c16617fcf4028535027667259b84d02278494677867dbc7e1d8a271bdfc67"), looks := false }, kinds := [], alts := [], laidByText := true, laidKinds := [.data], laidTests := true, laidLooks := .later }
def ShapeBlanksCardSaid : Prop := Claim7.holds Tryz.pinned (.plain (OpenSpec.ofChange shapeBlanksSpec)) shapeBlanksCard

/-- THE TIED CARD OF 'recensionlaw12.ShapeOnce'. -/
def shapeOnceCard : Claim7 := { stood := { row := shapeOnceRow, standIns := [], harness := (true, "de1c16617fcf4028535027667259b84d02278494677867dbc7e1d8a271bdfc67"), looks := false }, kinds := [], alts := [], laidByText := true, laidKinds := [.data], laidTests := true, laidLooks := .later }
def ShapeOnceCardSaid : Prop := Claim7.holds Tryz.pinned (.plain (OpenSpec.ofChange shapeOnceSpec)) shapeOnceCard

/-- THE TIED CARD OF 'recensionlaw12.ShapeParens'. -/
def shapeParensCard : Claim7 := { stood := { row := shapeParensRow, standIns := [], harness := (true, "de1c16617fcf4028535027667259b84d02278494677867dbc7e1d8a271bdfc67"), looks := false }, kinds := [], alts := [], laidByText := true, laidKinds := [.data], laidTests := true, laidLooks := .later }
def ShapeParensCardSaid : Prop := Claim7.holds Tryz.pinned (.plain (OpenSpec.ofChange shapeParensSpec)) shapeParensCard

/-- THE TIED CARD OF 'recensionlaw12.ShapeAll'. -/
def shapeAllCard : Claim7 := { stood := { row := shapeAllRow, standIns := [], harness := (true, "de1c16617fcf4028535027667259b84d02278494677867dbc7e1d8a271bdfc67"), looks := false }, kinds := [], alts := [], laidByText := true, laidKinds := [.data], laidTests := true, laidLooks := .later }
def ShapeAllCardSaid : Prop := Claim7.holds Tryz.pinned (.plain (OpenSpec.ofChange shapeAllSpec)) shapeAllCard

/-- THE SECOND FORM's CARD OF 'recensionlaw12.ShapeAny'. -/
def shapeAnyUptoCard : Claim7 := { stood := { row := shapeAnyUptoRow, standIns := [], harness := (true, "de1c16617fcf4028535027667259b84d02278494677867dbc7e1d8a271bdfc67"), looks := false }, kinds := [], alts := [], laidByText := true, laidKinds := [.data], laidTests := true, laidLooks := .later }
def ShapeAnyUptoCardSaid : Prop := Claim7.holds Tryz.pinned (.plain (OpenSpec.upto shapeAnySpec)) shapeAnyUptoCard

/-- THE SECOND FORM's CARD OF 'recensionlaw12.ShapeBlanks'. -/
def shapeBlanksUptoCard : Claim7 := { stood := { row := shapeBlanksUptoRow, standIns := [], harness := (true, "de1c16617fcf4028535027667259b84d02278494677867dbc7e1d8a271bdfc67"), looks := false }, kinds := [], alts := [], laidByText := true, laidKinds := [.data], laidTests := true, laidLooks := .later }
def ShapeBlanksUptoCardSaid : Prop := Claim7.holds Tryz.pinned (.plain (OpenSpec.upto shapeBlanksSpec)) shapeBlanksUptoCard

/-- THE SECOND FORM's CARD OF 'recensionlaw12.ShapeOnce'. -/
def shapeOnceUptoCard : Claim7 := { stood := { row := shapeOnceUptoRow, standIns := [], harness := (true, "de1c16617fcf4028535027667259b84d02278494677867dbc7e1d8a271bdfc67"), looks := false }, kinds := [], alts := [], laidByText := true, laidKinds := [.data], laidTests := true, laidLooks := .later }
def ShapeOnceUptoCardSaid : Prop := Claim7.holds Tryz.pinned (.plain (OpenSpec.upto shapeOnceSpec)) shapeOnceUptoCard

/-- THE SECOND FORM's CARD OF 'recensionlaw12.ShapeParens'. -/
def shapeParensUptoCard : Claim7 := { stood := { row := shapeParensUptoRow, standIns := [], harness := (true, "de1c16617fcf4028535027667259b84d02278494677867dbc7e1d8a271bdfc67"), looks := false }, kinds := [], alts := [], laidByText := true, laidKinds := [.data], laidTests := true, laidLooks := .later }
def ShapeParensUptoCardSaid : Prop := Claim7.holds Tryz.pinned (.plain (OpenSpec.upto shapeParensSpec)) shapeParensUptoCard

/-- THE SECOND FORM's CARD OF 'recensionlaw12.ShapeAll'. -/
def shapeAllUptoCard : Claim7 := { stood := { row := shapeAllUptoRow, standIns := [], harness := (true, "de1c16617fcf4028535027667259b84d02278494677867dbc7e1d8a271bdfc67"), looks := false }, kinds := [], alts := [], laidByText := true, laidKinds := [.data], laidTests := true, laidLooks := .later }
def ShapeAllUptoCardSaid : Prop := Claim7.holds Tryz.pinned (.plain (OpenSpec.upto shapeAllSpec)) shapeAllUptoCard
end Rows
end Go.Proofs.YtiknnobgoamgcaaGreatDoor

/-
  NARROWER THAN 'FOR EVERY INPUT', by the rows' own cells (each row's printed sentence says how): ShapeAny: loops, laid · ShapeBlanks: laid · ShapeOnce: laid · ShapeParens: laid · ShapeAll: laid.
  DERIVED. THE GIVEN ROWS OF THIS SEAT. 5 by the template 'for every input the law returns true; each argument reads behind the call as it read before'; 0 by the template 'total and deterministic' (their statements: YtiknnobgoamgcaaGreatDoorTotals.lean).
  GIVEN WITH THE SEED: the statements are not yours to turn. If you find one false, say at which input.
  Laid BY PROGRAM, IN A SANDBOX (cutbox-rows.mjs): the forced cells as the released guide's own fill.sh prints them over the translation 2ea41f2c9918d457… (all of the seat's roots in one cut). By AI agents, Wed Nov 11 2026. No macro, syntax, notation, axiom, sorry.
-/
import Derived.Test.YtiknnobgoamgcaaGreatDoorChecked
import GoSem.Claim
import GoSem.ClaimJoined
import GoSem.ClaimMapViews
import Derived.JoinedTies
import Derived.KernelRfl
namespace Go.Proofs.YtiknnobgoamgcaaGreatDoor
/- THE CELL 'sum', in the pinned program and in every row, IS THE sha256 OF THE DUMP (.gsa) THAT YtiknnobgoamgcaaGreatDoorProg.lean LOADS. Nothing in Lean hashes anything: it is a label: what it is worth is what the hold of that sum in a sandbox is worth. -/
noncomputable def Tryz.pinned : Pinned := { name := "ytiknnobgoamgcaagreatdoor", sum := "2ea41f2c9918d457529679dae274a8f15983eeda9660d448a6588d1bb3fb3b8e", checked := Tryz.checked }
namespace Rows
def none {H : Type} : Left H := { results := [], args := [] }

/- WHAT THE LISTED PACKAGE-LEVEL VARIABLES READ AS WHEN THE CALL BEGINS. Each datum BY PROGRAM (the guide's laid-datum.mjs) off the statement by which the dump's own 'gosem.cut.vars' lays the variable. In a bare row this is a premise. The card (YtiknnobgoamgcaaGreatDoorCards.lean) ties it to the program's text. -/
def laid_recension_node_names {H : Type} : DataW H := .agg [.lit (.string []), .lit (.string [102, 105, 108, 101]), .lit (.string [112, 97, 99, 107, 97, 103, 101]), .lit (.string [105, 109, 112, 111, 114, 116]), .lit (.string [118, 97, 114]), .lit (.string [99, 111, 110, 115, 116]), .lit (.string [115, 116, 114, 117, 99, 116]), .lit (.string [102, 105, 101, 108, 100]), .lit (.string [102, 117, 110, 99]), .lit (.string [112, 97, 114, 97, 109]), .lit (.string [98, 108, 111, 99, 107]), .lit (.string [100, 101, 102, 105, 110, 101]), .lit (.string [100, 111]), .lit (.string [97, 115, 115, 105, 103, 110]), .lit (.string [105, 102]), .lit (.string [102, 111, 114]), .lit (.string [114, 101, 116, 117, 114, 110]), .lit (.string [98, 114, 101, 97, 107]), .lit (.string [99, 111, 110, 116, 105, 110, 117, 101]), .lit (.string [108, 97, 98, 101, 108]), .lit (.string [110, 97, 109, 101]), .lit (.string [105, 110, 116]), .lit (.string [115, 116, 114, 105, 110, 103]), .lit (.string [117, 110, 97, 114, 121]), .lit (.string [98, 105, 110, 97, 114, 121]), .lit (.string [112, 97, 114, 101, 110]), .lit (.string [99, 97, 108, 108]), .lit (.string [115, 101, 108, 101, 99, 116]), .lit (.string [116, 121, 112, 101])]

/-- 'recensionlaw12.ShapeAny': WHATEVER THE INPUT: true; the input reads as it did. -/
def shapeAnySpec : ChangeSpec := { name := "shapeAny", fn := fun _ => fun
  | [d1, d2] => { results := [.lit (.bool true)], args := [d1, d2] }
  | _ => none }
def shapeAnyRow : OpenClaim := { program := "ytiknnobgoamgcaagreatdoor", sum := "2ea41f2c9918d457529679dae274a8f15983eeda9660d448a6588d1bb3fb3b8e", func := "recension/recensionlaw12.ShapeAny", spec := "shapeAny", inPlace := ["internal/bytealg.IndexByteString", "internal/bytealg.IndexString", "internal/abi.NoEscape"], unfollowed := true, recurses := true, named := ["internal/bytealg.MaxLen", "recension/node.names"], loops := true, apart := false, laid := [("recension/node.names", laid_recension_node_names)] }
def ShapeAnySaid : Prop := shapeAnyRow.holds Tryz.pinned (OpenSpec.ofChange shapeAnySpec)

/-- ITS FALSE NEIGHBOUR: 'it returns false'. Refute it at one input. -/
def shapeAnyWrong : ChangeSpec := { name := "shapeAny", fn := fun _ => fun
  | [d1, d2] => { results := [.lit (.bool false)], args := [d1, d2] }
  | _ => none }
def ShapeAnyWrongFalsely : Prop := shapeAnyRow.holds Tryz.pinned (OpenSpec.ofChange shapeAnyWrong)

/-- 'recensionlaw12.ShapeBlanks': WHATEVER THE INPUT: true; the input reads as it did. -/
def shapeBlanksSpec : ChangeSpec := { name := "shapeBlanks", fn := fun _ => fun
  | [d] => { results := [.lit (.bool true)], args := [d] }
  | _ => none }
def shapeBlanksRow : OpenClaim := { program := "ytiknnobgoamgcaagreatdoor", sum := "2ea41f2c9918d457529679dae274a8f15983eeda9660d448a6588d1bb3fb3b8e", func := "recension/recensionlaw12.ShapeBlanks", spec := "shapeBlanks", inPlace := ["internal/bytealg.IndexByteString", "internal/bytealg.IndexString", "internal/abi.NoEscape"], unfollowed := true, recurses := true, named := ["internal/bytealg.MaxLen", "recension/node.names"], apart := false, laid := [("recension/node.names", laid_recension_node_names)] }
def ShapeBlanksSaid : Prop := shapeBlanksRow.holds Tryz.pinned (OpenSpec.ofChange shapeBlanksSpec)

/-- ITS FALSE NEIGHBOUR: 'it returns false'. Refute it at one input. -/
def shapeBlanksWrong : ChangeSpec := { name := "shapeBlanks", fn := fun _ => fun
  | [d] => { results := [.lit (.bool false)], args := [d] }
  | _ => none }
def ShapeBlanksWrongFalsely : Prop := shapeBlanksRow.holds Tryz.pinned (OpenSpec.ofChange shapeBlanksWrong)

/-- 'recensionlaw12.ShapeOnce': WHATEVER THE INPUT: true; the input reads as it did. -/
def shapeOnceSpec : ChangeSpec := { name := "shapeOnce", fn := fun _ => fun
  | [d1, d2] => { results := [.lit (.bool true)], args := [d1, d2] }
  | _ => none }
def shapeOnceRow : OpenClaim := { program := "ytiknnobgoamgcaagreatdoor", sum := "2ea41f2c9918d457529679dae274a8f15983eeda9660d448a6588d1bb3fb3b8e", func := "recension/recensionlaw12.ShapeOnce", spec := "shapeOnce", inPlace := ["internal/bytealg.IndexByteString", "internal/bytealg.IndexString", "internal/abi.NoEscape"], unfollowed := true, recurses := true, named := ["internal/bytealg.MaxLen", "recension/node.names"], apart := false, laid := [("recension/node.names", laid_recension_node_names)] }
def ShapeOnceSaid : Prop := shapeOnceRow.holds Tryz.pinned (OpenSpec.ofChange shapeOnceSpec)

/-- ITS FALSE NEIGHBOUR: 'it returns false'. Refute it at one input. -/
def shapeOnceWrong : ChangeSpec := { name := "shapeOnce", fn := fun _ => fun
  | [d1, d2] => { results := [.lit (.bool false)], args := [d1, d2] }
  | _ => none }
def ShapeOnceWrongFalsely : Prop := shapeOnceRow.holds Tryz.pinned (OpenSpec.ofChange shapeOnceWrong)

/-- 'recensionlaw12.ShapeParens': WHATEVER THE INPUT: true; the input reads as it did. -/
def shapeParensSpec : ChangeSpec := { name := "shapeParens", fn := fun _ => fun
  | [d] => { results := [.lit (.bool true)], args := [d] }
  | _ => none }
def shapeParensRow : OpenClaim := { program := "ytiknnobgoamgcaagreatdoor", sum := "2ea41f2c9918d457529679dae274a8f15983eeda9660d448a6588d1bb3fb3b8e", func := "recension/recensionlaw12.ShapeParens", spec := "shapeParens", inPlace := ["internal/bytealg.IndexByteString", "internal/bytealg.IndexString", "internal/abi.NoEscape"], unfollowed := true, recurses := true, named := ["internal/bytealg.MaxLen", "recension/node.names"], apart := false, laid := [("recension/node.names", laid_recension_node_names)] }
def ShapeParensSaid : Prop := shapeParensRow.holds Tryz.pinned (OpenSpec.ofChange shapeParensSpec)

/-- ITS FALSE NEIGHBOUR: 'it returns false'. Refute it at one input. -/
def shapeParensWrong : ChangeSpec := { name := "shapeParens", fn := fun _ => fun
  | [d] => { results := [.lit (.bool false)], args := [d] }
  | _ => none }
def ShapeParensWrongFalsely : Prop := shapeParensRow.holds Tryz.pinned (OpenSpec.ofChange shapeParensWrong)

/-- 'recensionlaw12.ShapeAll': WHATEVER THE INPUT: true; the input reads as it did. -/
def shapeAllSpec : ChangeSpec := { name := "shapeAll", fn := fun _ => fun
  | [d1, d2] => { results := [.lit (.bool true)], args := [d1, d2] }
  | _ => none }
def shapeAllRow : OpenClaim := { program := "ytiknnobgoamgcaagreatdoor", sum := "2ea41f2c9918d457529679dae274a8f15983eeda9660d448a6588d1bb3fb3b8e", func := "recension/recensionlaw12.ShapeAll", spec := "shapeAll", inPlace := ["internal/bytealg.IndexByteString", "internal/bytealg.IndexString", "internal/abi.NoEscape"], unfollowed := true, recurses := true, named := ["internal/bytealg.MaxLen", "recension/node.names"], apart := false, laid := [("recension/node.names", laid_recension_node_names)] }
def ShapeAllSaid : Prop := shapeAllRow.holds Tryz.pinned (OpenSpec.ofChange shapeAllSpec)

/-- ITS FALSE NEIGHBOUR: 'it returns false'. Refute it at one input. -/
def shapeAllWrong : ChangeSpec := { name := "shapeAll", fn := fun _ => fun
  | [d1, d2] => { results := [.lit (.bool false)], args := [d1, d2] }
  | _ => none }
def ShapeAllWrongFalsely : Prop := shapeAllRow.holds Tryz.pinned (OpenSpec.ofChange shapeAllWrong)

/- THE SECOND FORM. 'bulk': how many values and letters a reading holds, each counted each time it is reached (what is shared counts as often as it is met; a slice's spare places count too). A statement '..UptoSaid' is the law's where the arguments, and the package variables that the reading takes, are together of bulk at most 1048576: NARROWER than '..Said'. Prove '..Said' where nothing that the law and all that it calls make is longer than what came in: it says more and counts as full. Else prove '..UptoSaid'. A law counts once. -/
mutual
def uptoBulk {H : Type} : DataW H → Nat
  | .lit (.string bytes) => bytes.length + 1
  | .lit _ => 1
  | .nil => 1
  | .ptr d => uptoBulk d + 1
  | .slice elems spare => uptoBulkAll elems + uptoBulkAll spare + 1
  | .agg parts => uptoBulkAll parts + 1
  | .iface _ d => uptoBulk d + 1
  | .map entries => uptoBulkEntries entries + 1
  | .held _ => 1
def uptoBulkAll {H : Type} : List (DataW H) → Nat
  | [] => 0
  | d :: r => uptoBulk d + uptoBulkAll r
def uptoBulkEntries {H : Type} : List (Lit × DataW H) → Nat
  | [] => 0
  | x :: r => uptoBulkEntry x + uptoBulkEntries r
def uptoBulkEntry {H : Type} : Lit × DataW H → Nat
  | (.string bytes, d) => bytes.length + uptoBulk d + 1
  | (_, d) => uptoBulk d + 1
 end
def uptoSmall : (H : Type) → List (DataW H) → Bool := fun _ ds => decide (uptoBulkAll ds ≤ 1048576)
def OpenSpec.upto (s : _root_.Go.ChangeSpec) : _root_.Go.OpenSpec := { _root_.Go.OpenSpec.ofChange s with cond := some uptoSmall }

/-- 'recensionlaw12.ShapeAny', WHERE WHAT IT READS IS OF BULK AT MOST 1048576: true; the input reads as it did. -/
def shapeAnyUptoRow : OpenClaim := { program := "ytiknnobgoamgcaagreatdoor", sum := "2ea41f2c9918d457529679dae274a8f15983eeda9660d448a6588d1bb3fb3b8e", func := "recension/recensionlaw12.ShapeAny", spec := "shapeAny", inPlace := ["internal/bytealg.IndexByteString", "internal/bytealg.IndexString", "internal/abi.NoEscape"], unfollowed := true, recurses := true, named := ["internal/bytealg.MaxLen", "recension/node.names"], loops := true, apart := false, laid := [("recension/node.names", laid_recension_node_names)], narrowed := true }
def ShapeAnyUptoSaid : Prop := shapeAnyUptoRow.holds Tryz.pinned (OpenSpec.upto shapeAnySpec)

/-- 'recensionlaw12.ShapeBlanks', WHERE WHAT IT READS IS OF BULK AT MOST 1048576: true; the input reads as it did. -/
def shapeBlanksUptoRow : OpenClaim := { program := "ytiknnobgoamgcaagreatdoor", sum := "2ea41f2c9918d457529679dae274a8f15983eeda9660d448a6588d1bb3fb3b8e", func := "recension/recensionlaw12.ShapeBlanks", spec := "shapeBlanks", inPlace := ["internal/bytealg.IndexByteString", "internal/bytealg.IndexString", "internal/abi.NoEscape"], unfollowed := true, recurses := true, named := ["internal/bytealg.MaxLen", "recension/node.names"], apart := false, laid := [("recension/node.names", laid_recension_node_names)], narrowed := true }
def ShapeBlanksUptoSaid : Prop := shapeBlanksUptoRow.holds Tryz.pinned (OpenSpec.upto shapeBlanksSpec)

/-- 'recensionlaw12.ShapeOnce', WHERE WHAT IT READS IS OF BULK AT MOST 1048576: true; the input reads as it did. -/
def shapeOnceUptoRow : OpenClaim := { program := "ytiknnobgoamgcaagreatdoor", sum := "2ea41f2c9918d457529679dae274a8f15983eeda9660d448a6588d1bb3fb3b8e", func := "recension/recensionlaw12.ShapeOnce", spec := "shapeOnce", inPlace := ["internal/bytealg.IndexByteString", "internal/bytealg.IndexString", "internal/abi.NoEscape"], unfollowed := true, recurses := true, named := ["internal/bytealg.MaxLen", "recension/node.names"], apart := false, laid := [("recension/node.names", laid_recension_node_names)], narrowed := true }
def ShapeOnceUptoSaid : Prop := shapeOnceUptoRow.holds Tryz.pinned (OpenSpec.upto shapeOnceSpec)

/-- 'recensionlaw12.ShapeParens', WHERE WHAT IT READS IS OF BULK AT MOST 1048576: true; the input reads as it did. -/
def shapeParensUptoRow : OpenClaim := { program := "ytiknnobgoamgcaagreatdoor", sum := "2ea41f2c9918d457529679dae274a8f15983eeda9660d448a6588d1bb3fb3b8e", func := "recension/recensionlaw12.ShapeParens", spec := "shapeParens", inPlace := ["internal/bytealg.IndexByteString", "internal/bytealg.IndexString", "internal/abi.NoEscape"], unfollowed := true, recurses := true, named := ["internal/bytealg.MaxLen", "recension/node.names"], apart := false, laid := [("recension/node.names", laid_recension_node_names)], narrowed := true }
def ShapeParensUptoSaid : Prop := shapeParensUptoRow.holds Tryz.pinned (OpenSpec.upto shapeParensSpec)

/-- 'recensionlaw12.ShapeAll', WHERE WHAT IT READS IS OF BULK AT MOST 1048576: true; the input reads as it did. -/
def shapeAllUptoRow : OpenClaim := { program := "ytiknnobgoamgcaagreatdoor", sum := "2ea41f2c9918d457529679dae274a8f15983eeda9660d448a6588d1bb3fb3b8e", func := "recension/recensionlaw12.ShapeAll", spec := "shapeAll", inPlace := ["internal/bytealg.IndexByteString", "internal/bytealg.IndexString", "internal/abi.NoEscape"], unfollowed := true, recurses := true, named := ["internal/bytealg.MaxLen", "recension/node.names"], apart := false, laid := [("recension/node.names", laid_recension_node_names)], narrowed := true }
def ShapeAllUptoSaid : Prop := shapeAllUptoRow.holds Tryz.pinned (OpenSpec.upto shapeAllSpec)

end Rows
end Go.Proofs.YtiknnobgoamgcaaGreatDoor

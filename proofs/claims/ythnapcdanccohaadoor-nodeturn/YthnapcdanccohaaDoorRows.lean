/-
  NARROWER THAN 'FOR EVERY INPUT', by the rows' own cells (each row's printed sentence says how): NodeAll: laid · NodeTurn: laid · NodeBuild: laid.
  DERIVED. THE GIVEN ROWS OF THIS SEAT. 3 by the template 'for every input the law returns true; each argument reads behind the call as it read before'; 0 by the template 'total and deterministic' (their statements: YthnapcdanccohaaDoorTotals.lean).
  GIVEN WITH THE SEED: the statements are not yours to turn. If you find one false, say at which input.
  Laid BY PROGRAM, IN A SANDBOX (cutbox-rows.mjs): the forced cells as the released guide's own fill.sh prints them over the translation 61a63a4f1525c35c… (all of the seat's roots in one cut). By AI agents, Wed Nov 11 2026. No macro, syntax, notation, axiom, sorry.
-/
import Derived.Test.YthnapcdanccohaaDoorChecked
import GoSem.Claim
import GoSem.ClaimJoined
import GoSem.ClaimMapViews
import Derived.JoinedTies
import Derived.KernelRfl
namespace Go.Proofs.YthnapcdanccohaaDoor
/- THE CELL 'sum', in the pinned program and in every row, IS THE sha256 OF THE DUMP (.gsa) THAT YthnapcdanccohaaDoorProg.lean LOADS. Nothing in Lean hashes anything: it is a label: what it is worth is what the hold of that sum in a sandbox is worth. -/
noncomputable def Tryd.pinned : Pinned := { name := "ythnapcdanccohaadoor", sum := "61a63a4f1525c35cc5e43339c2ebc21018c5c943256b0eabe7b7036e4d280fa6", checked := Tryd.checked }
namespace Rows
def none {H : Type} : Left H := { results := [], args := [] }

/- WHAT THE LISTED PACKAGE-LEVEL VARIABLES READ AS WHEN THE CALL BEGINS. Each datum BY PROGRAM (the guide's laid-datum.mjs) off the statement by which the dump's own 'gosem.cut.vars' lays the variable. In a bare row this is a premise. The card (YthnapcdanccohaaDoorCards.lean) ties it to the program's text. -/
def laid_recension_node_names {H : Type} : DataW H := .agg [.lit (.string []), .lit (.string [102, 105, 108, 101]), .lit (.string [112, 97, 99, 107, 97, 103, 101]), .lit (.string [105, 109, 112, 111, 114, 116]), .lit (.string [118, 97, 114]), .lit (.string [99, 111, 110, 115, 116]), .lit (.string [115, 116, 114, 117, 99, 116]), .lit (.string [102, 105, 101, 108, 100]), .lit (.string [102, 117, 110, 99]), .lit (.string [112, 97, 114, 97, 109]), .lit (.string [98, 108, 111, 99, 107]), .lit (.string [100, 101, 102, 105, 110, 101]), .lit (.string [100, 111]), .lit (.string [97, 115, 115, 105, 103, 110]), .lit (.string [105, 102]), .lit (.string [102, 111, 114]), .lit (.string [114, 101, 116, 117, 114, 110]), .lit (.string [98, 114, 101, 97, 107]), .lit (.string [99, 111, 110, 116, 105, 110, 117, 101]), .lit (.string [108, 97, 98, 101, 108]), .lit (.string [110, 97, 109, 101]), .lit (.string [105, 110, 116]), .lit (.string [115, 116, 114, 105, 110, 103]), .lit (.string [117, 110, 97, 114, 121]), .lit (.string [98, 105, 110, 97, 114, 121]), .lit (.string [112, 97, 114, 101, 110]), .lit (.string [99, 97, 108, 108]), .lit (.string [115, 101, 108, 101, 99, 116]), .lit (.string [116, 121, 112, 101])]

/-- 'recensionlaw10.NodeAll': WHATEVER THE INPUT: true; the input reads as it did. -/
def nodeAllSpec : ChangeSpec := { name := "nodeAll", fn := fun _ => fun
  | [d1, d2, d3, d4, d5] => { results := [.lit (.bool true)], args := [d1, d2, d3, d4, d5] }
  | _ => none }
def nodeAllRow : OpenClaim := { program := "ythnapcdanccohaadoor", sum := "61a63a4f1525c35cc5e43339c2ebc21018c5c943256b0eabe7b7036e4d280fa6", func := "recension/recensionlaw10.NodeAll", spec := "nodeAll", unfollowed := true, recurses := true, named := ["recension/node.names"], apart := false, laid := [("recension/node.names", laid_recension_node_names)] }
def NodeAllSaid : Prop := nodeAllRow.holds Tryd.pinned (OpenSpec.ofChange nodeAllSpec)

/-- ITS FALSE NEIGHBOUR: 'it returns false'. Refute it at one input. -/
def nodeAllWrong : ChangeSpec := { name := "nodeAll", fn := fun _ => fun
  | [d1, d2, d3, d4, d5] => { results := [.lit (.bool false)], args := [d1, d2, d3, d4, d5] }
  | _ => none }
def NodeAllWrongFalsely : Prop := nodeAllRow.holds Tryd.pinned (OpenSpec.ofChange nodeAllWrong)

/-- 'recensionlaw10.NodeTurn': WHATEVER THE INPUT: true; the input reads as it did. -/
def nodeTurnSpec : ChangeSpec := { name := "nodeTurn", fn := fun _ => fun
  | [d1, d2, d3] => { results := [.lit (.bool true)], args := [d1, d2, d3] }
  | _ => none }
def nodeTurnRow : OpenClaim := { program := "ythnapcdanccohaadoor", sum := "61a63a4f1525c35cc5e43339c2ebc21018c5c943256b0eabe7b7036e4d280fa6", func := "recension/recensionlaw10.NodeTurn", spec := "nodeTurn", unfollowed := true, recurses := true, named := ["recension/node.names"], apart := false, laid := [("recension/node.names", laid_recension_node_names)] }
def NodeTurnSaid : Prop := nodeTurnRow.holds Tryd.pinned (OpenSpec.ofChange nodeTurnSpec)

/-- ITS FALSE NEIGHBOUR: 'it returns false'. Refute it at one input. -/
def nodeTurnWrong : ChangeSpec := { name := "nodeTurn", fn := fun _ => fun
  | [d1, d2, d3] => { results := [.lit (.bool false)], args := [d1, d2, d3] }
  | _ => none }
def NodeTurnWrongFalsely : Prop := nodeTurnRow.holds Tryd.pinned (OpenSpec.ofChange nodeTurnWrong)

/-- 'recensionlaw10.NodeBuild': WHATEVER THE INPUT: true; the input reads as it did. -/
def nodeBuildSpec : ChangeSpec := { name := "nodeBuild", fn := fun _ => fun
  | [d1, d2, d3, d4] => { results := [.lit (.bool true)], args := [d1, d2, d3, d4] }
  | _ => none }
def nodeBuildRow : OpenClaim := { program := "ythnapcdanccohaadoor", sum := "61a63a4f1525c35cc5e43339c2ebc21018c5c943256b0eabe7b7036e4d280fa6", func := "recension/recensionlaw10.NodeBuild", spec := "nodeBuild", unfollowed := true, recurses := true, named := ["recension/node.names"], apart := false, laid := [("recension/node.names", laid_recension_node_names)] }
def NodeBuildSaid : Prop := nodeBuildRow.holds Tryd.pinned (OpenSpec.ofChange nodeBuildSpec)

/-- ITS FALSE NEIGHBOUR: 'it returns false'. Refute it at one input. -/
def nodeBuildWrong : ChangeSpec := { name := "nodeBuild", fn := fun _ => fun
  | [d1, d2, d3, d4] => { results := [.lit (.bool false)], args := [d1, d2, d3, d4] }
  | _ => none }
def NodeBuildWrongFalsely : Prop := nodeBuildRow.holds Tryd.pinned (OpenSpec.ofChange nodeBuildWrong)

/- THE SECOND FORM. 'bulk': how many values and letters a reading holds, each counted each time it is reached (what is shared counts as often as it is met; a slice's spare places count too). A statement '..UptoSaid' is the law's where the arguments, and the package variables that the reading takes, are together of bulk at most 1048576: NARROWER than '..Said'. Prove '..Said' where nothing that the law and all that it calls make is longer than what came in: it says more and counts as full. Else prove '..UptoSaid'. A law counts once. -/
mutual
def uptoBulk {H : Type} : DataW H → Nat
  | .lit (.string bytes) => bytes.length + 1
  | .lit _ => 1
  | .nil => 1
  | .ptr d => uptoBulk d + 1
  | .slice elems spare => uptoBulkAll elems + uptoBulkAll spare + 1
  | .agg parts => uptoBulkAll parts + 1
  | .iface _ d => uptoBulk d + 1
  | .map entries => uptoBulkEntries entries + 1
  | .held _ => 1
def uptoBulkAll {H : Type} : List (DataW H) → Nat
  | [] => 0
  | d :: r => uptoBulk d + uptoBulkAll r
def uptoBulkEntries {H : Type} : List (Lit × DataW H) → Nat
  | [] => 0
  | x :: r => uptoBulkEntry x + uptoBulkEntries r
def uptoBulkEntry {H : Type} : Lit × DataW H → Nat
  | (.string bytes, d) => bytes.length + uptoBulk d + 1
  | (_, d) => uptoBulk d + 1
 end
def uptoSmall : (H : Type) → List (DataW H) → Bool := fun _ ds => decide (uptoBulkAll ds ≤ 1048576)
def OpenSpec.upto (s : _root_.Go.ChangeSpec) : _root_.Go.OpenSpec := { _root_.Go.OpenSpec.ofChange s with cond := some uptoSmall }

/-- 'recensionlaw10.NodeAll', WHERE WHAT IT READS IS OF BULK AT MOST 1048576: true; the input reads as it did. -/
def nodeAllUptoRow : OpenClaim := { program := "ythnapcdanccohaadoor", sum := "61a63a4f1525c35cc5e43339c2ebc21018c5c943256b0eabe7b7036e4d280fa6", func := "recension/recensionlaw10.NodeAll", spec := "nodeAll", unfollowed := true, recurses := true, named := ["recension/node.names"], apart := false, laid := [("recension/node.names", laid_recension_node_names)], narrowed := true }
def NodeAllUptoSaid : Prop := nodeAllUptoRow.holds Tryd.pinned (OpenSpec.upto nodeAllSpec)

/-- 'recensionlaw10.NodeTurn', WHERE WHAT IT READS IS OF BULK AT MOST 1048576: true; the input reads as it did. -/
def nodeTurnUptoRow : OpenClaim := { program := "ythnapcdanccohaadoor", sum := "61a63a4f1525c35cc5e43339c2ebc21018c5c943256b0eabe7b7036e4d280fa6", func := "recension/recensionlaw10.NodeTurn", spec := "nodeTurn", unfollowed := true, recurses := true, named := ["recension/node.names"], apart := false, laid := [("recension/node.names", laid_recension_node_names)], narrowed := true }
def NodeTurnUptoSaid : Prop := nodeTurnUptoRow.holds Tryd.pinned (OpenSpec.upto nodeTurnSpec)

/-- 'recensionlaw10.NodeBuild', WHERE WHAT IT READS IS OF BULK AT MOST 1048576: true; the input reads as it did. -/
def nodeBuildUptoRow : OpenClaim := { program := "ythnapcdanccohaadoor", sum := "61a63a4f1525c35cc5e43339c2ebc21018c5c943256b0eabe7b7036e4d280fa6", func := "recension/recensionlaw10.NodeBuild", spec := "nodeBuild", unfollowed := true, recurses := true, named := ["recension/node.names"], apart := false, laid := [("recension/node.names", laid_recension_node_names)], narrowed := true }
def NodeBuildUptoSaid : Prop := nodeBuildUptoRow.holds Tryd.pinned (OpenSpec.upto nodeBuildSpec)

end Rows
end Go.Proofs.YthnapcdanccohaaDoor

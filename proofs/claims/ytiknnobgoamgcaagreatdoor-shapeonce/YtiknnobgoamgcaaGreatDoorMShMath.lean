/-
  A tree as words. No program.
-/
import Derived.Test.YtiknnobgoamgcaaGreatDoorB23
import Derived.Test.YtiknnobgoamgcaaGreatDoorB01
namespace Go.Proofs.YtiknnobgoamgcaaGreatDoor
set_option linter.unusedSimpArgs false
/-- Written without a token. -/
def bareB (k : Int) : Bool := decide (k = 1) || decide (k = 10) || decide (k = 12) || decide (k = 25) || decide (k = 26) || decide (k = 14) || decide (k = 15) || decide (k = 16) || decide (k = 17) || decide (k = 18)
/-- A token's text, if there is such a token. -/
def txtT (L : List Tk) (t : Int) : List UInt8 := if 0 ≤ t ∧ t < L.length then (tkA L t.toNat).s.data.toList else []
/-- What stands ahead of a node's kids. -/
def shO (L : List Tk) (k t : Int) : List UInt8 := [40] ++ (nameK k).data.toList ++ if bareB k then [] else [32] ++ txtT L t
def shF (L : List Tk) : F → List UInt8
  | .nil => []
  | .cons k t c r => [32] ++ shO L k t ++ shF L c ++ [41] ++ shF L r
def shN (L : List Tk) (n : Nd) : List UInt8 := shO L n.k n.t ++ shF L n.c ++ [41]
/-- What is still to be written: of each node that is open, the kids that are still to come. -/
def shR (L : List Tk) : List F → List UInt8
  | [] => []
  | f :: fs => shF L f ++ [41] ++ shR L fs
theorem shR_nil (L : List Tk) (fs : List F) : shR L (.nil :: fs) = [41] ++ shR L fs := by simp [shR, shF]
theorem shR_cons (L : List Tk) (k t : Int) (c r : F) (fs : List F) : shR L (.cons k t c r :: fs) = [32] ++ shO L k t ++ shR L (c :: r :: fs) := by simp [shR, shF]
end Go.Proofs.YtiknnobgoamgcaaGreatDoor

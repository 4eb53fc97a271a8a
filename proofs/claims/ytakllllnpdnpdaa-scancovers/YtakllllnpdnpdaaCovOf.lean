/-
  A region of a function's text, by its number. No program.
-/
import Derived.WalkKit
namespace Go.Proofs.Ytakllllnpdnpdaa
/-- The region of that number in a code. -/
def regOf (n : Nat) : Code → Option Code
  | .region i ops d => if i == n then some (.region i ops d) else none
  | .seq a b => match regOf n a with
    | some c => some c
    | none => regOf n b
  | .block _ c => regOf n c
  | .loop c => regOf n c
  | .scope c => regOf n c
  | .cond _ a b => match regOf n a with
    | some c => some c
    | none => regOf n b
  | _ => none
end Go.Proofs.Ytakllllnpdnpdaa

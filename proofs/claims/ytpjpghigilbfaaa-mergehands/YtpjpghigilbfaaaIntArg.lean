/-
  A parameter that is a slice of ints.
-/
import Derived.Test.YtpjpghigilbfaaaRowArg
namespace Go.Proofs.Ytpjpghigilbfaaa
open Go.ChangeShapes Go.WideShapes Go.ChangeAt Go.RowKit Go.Deep
theorem ints_in {H : Type} {enc : TypeId × Value → H} {w : World} {base : Nat} {sp : Nat → Bool} {held : Bool} {a : Option Addr} {len cap : Nat} {d : DataW H} {p : List MemPlace}
    (h : DataW.Trod enc Try.prog w base sp held 41 (.slice a len cap) d p) : ∃ L, Row1 w (.slice a len cap) L ∧ ∀ x ∈ L, ∃ z, x = .int .i64 z ∧ (Lit.int .i64 z).wf = true :=
  row1_in (fun x => ∃ z, x = .int .i64 z ∧ (Lit.int .i64 z).wf = true) Try.underlying41 (by kernel_rfl) (fun n cs x h => by
    obtain ⟨z, rfl, _, hz⟩ := DataW.trod_int Try.underlying3 h
    exact ⟨_, rfl, z, rfl, hz⟩) h
end Go.Proofs.Ytpjpghigilbfaaa

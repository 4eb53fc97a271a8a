/-
  A parameter that is a slice of bools.
-/
import Derived.Test.YtlmfoieolomcfaaRowArg
namespace Go.Proofs.Ytlmfoieolomcfaa
open Go.ChangeShapes Go.WideShapes Go.ChangeAt Go.RowKit Go.Deep
theorem bools_in {H : Type} {enc : TypeId × Value → H} {w : World} {base : Nat} {sp : Nat → Bool} {held : Bool} {a : Option Addr} {len cap : Nat} {d : DataW H} {p : List MemPlace}
    (h : DataW.Trod enc Try.prog w base sp held 42 (.slice a len cap) d p) : ∃ L, Row1 w (.slice a len cap) L ∧ ∀ x ∈ L, ∃ b, x = .bool b :=
  row1_in (fun x => ∃ b, x = .bool b) Try.underlying42 (by kernel_rfl) (fun n cs x h => by
    obtain ⟨b, rfl, _⟩ := DataW.trod_bool Try.underlying4 h
    exact ⟨_, rfl, b, rfl⟩) h
end Go.Proofs.Ytlmfoieolomcfaa

/-
  A parameter that is a slice of strings.
-/
import Derived.Test.YtlmfoieolomcfaaRowArg
namespace Go.Proofs.Ytlmfoieolomcfaa
open Go.ChangeShapes Go.WideShapes Go.ChangeAt Go.RowKit Go.Deep
theorem strs_in {H : Type} {enc : TypeId × Value → H} {w : World} {base : Nat} {sp : Nat → Bool} {held : Bool} {a : Option Addr} {len cap : Nat} {d : DataW H} {p : List MemPlace}
    (h : DataW.Trod enc Try.prog w base sp held 39 (.slice a len cap) d p) : ∃ L, Row1 w (.slice a len cap) L ∧ ∀ x ∈ L, ∃ s : ByteArray, x = .string s ∧ s.size ≤ maxLen :=
  row1_in (fun x => ∃ s : ByteArray, x = .string s ∧ s.size ≤ maxLen) Try.underlying39 (by kernel_rfl) (fun n cs x h => by
    obtain ⟨s, rfl, _, hs⟩ := DataW.trod_string Try.underlying9 h
    exact ⟨_, rfl, s, rfl, hs⟩) h
end Go.Proofs.Ytlmfoieolomcfaa

/-
  A parameter that is a slice of bools.
-/
import Derived.Test.YtlmfoieolomcfaaRows
import Derived.ProofKit
import Derived.OpenShut
import Derived.ShutString
import Derived.Deep.SlicePairs
import Derived.Deep.Strs
import Derived.DataShut
import Derived.Below
import Derived.ChangeArms
namespace Go.Proofs.Ytlmfoieolomcfaa
open Go.ChangeShapes Go.WideShapes Go.ChangeAt Go.RowKit Go.Deep
set_option linter.unusedVariables false
/-- The slice v holds these values, of one cell each. -/
def Row1 (w : World) (v : Value) (vs : List Value) : Prop :=
  ∃ a c, v = .slice a vs.length c ∧ vs.length ≤ c ∧ c ≤ maxLen ∧ (0 < vs.length → ∃ b off, a = some ⟨b, off, none⟩ ∧ b < w.heap.size ∧ ∀ i, i < vs.length → w.cell? ⟨b, off + i, none⟩ = some (vs.getD i undef))
theorem row1_in {H : Type} {enc : TypeId × Value → H} {w : World} {base : Nat} {sp : Nat → Bool} {held : Bool} {a : Option Addr} {len cap : Nat} {d : DataW H} {p : List MemPlace} {t e : TypeId} (V : Value → Prop)
    (ht : Try.prog.underlying t = some (.slice e)) (hc1 : Try.prog.cellsOf e = 1) (hV : ∀ (n : Nat) (cs : List Value) (x : DataW H × List MemPlace), DataW.trod enc Try.prog w base sp held n e cs = some x → ∃ u, cs = [u] ∧ V u)
    (h : DataW.Trod enc Try.prog w base sp held t (.slice a len cap) d p) : ∃ L, Row1 w (.slice a len cap) L ∧ ∀ x ∈ L, V x := by
  obtain ⟨fuel, hf⟩ := h
  rcases open_slice ht hf with ⟨hcs, _⟩ | ⟨x, l, c, m, k, D, Pl, hcs, _, hl, hm, hmm, _, hx⟩
  · simp [Value.cells] at hcs
    obtain ⟨rfl, rfl, rfl⟩ := hcs
    exact ⟨[], ⟨none, 0, rfl, Nat.le_refl _, Nat.zero_le _, fun h => by simp at h⟩, fun e he => by simp at he⟩
  · simp [Value.cells] at hcs
    obtain ⟨rfl, rfl, rfl⟩ := hcs
    have hlm : len ≤ m := by rw [hmm]; split <;> omega
    have each : ∀ i, i < len → ∃ u : Value, w.cell? (x.add i) = some u ∧ V u := by
      intro i hi
      obtain ⟨cs', h1, h2⟩ := hx i (by omega)
      rw [hc1] at h1
      obtain ⟨_, hlen, hcell⟩ := World.cells?_some h1
      have hc0 := hcell 0 (by omega)
      rw [add_add, Nat.mul_one, Nat.add_zero] at hc0
      obtain ⟨u, rfl, hu⟩ := hV _ _ _ h2
      exact ⟨u, hc0.trans rfl, hu⟩
    haveI : Inhabited Value := ⟨undef⟩
    obtain ⟨E, hE⟩ := choose_lt each
    have hln : ((List.range len).map E).length = len := by simp
    refine ⟨(List.range len).map E, ⟨some x, cap, by rw [hln], by rw [hln]; exact hl, hm, fun h0 => ?_⟩, fun e he => ?_⟩
    · rw [hln] at h0
      obtain ⟨b, off, spot⟩ := x
      have h00 := (hE 0 h0).1
      have hspot : spot = none := by simpa [Addr.add] using World.cell?_spot h00
      subst hspot
      have hat : ∀ i, i < len → w.cell? ⟨b, off + i, none⟩ = some (E i) := fun i hi => by
        have := (hE i hi).1
        rw [Go.WideShapes.add_plain] at this
        exact this
      refine ⟨b, off, rfl, World.block_lt_of_cell? w ⟨b, off + 0, none⟩ (hat 0 h0), fun i hi => ?_⟩
      rw [hln] at hi
      rw [show ((List.range len).map E).getD i undef = E i by simp [List.getD, hi]]
      exact hat i hi
    · obtain ⟨i, hi, rfl⟩ := List.mem_map.1 he
      exact (hE i (by simpa using hi)).2
theorem Row1.below {w w' : World} {v : Value} {vs : List Value} (h : Row1 w v vs) (hb : Below w.heap.size w w') : Row1 w' v vs := by
  obtain ⟨a, c, h1, h2, h3, h4⟩ := h
  refine ⟨a, c, h1, h2, h3, fun h0 => ?_⟩
  obtain ⟨b, off, e, hg, hc⟩ := h4 h0
  exact ⟨b, off, e, Nat.lt_of_lt_of_le hg hb.size, fun i hi => by rw [hb.cell (by exact hg)]; exact hc i hi⟩
end Go.Proofs.Ytlmfoieolomcfaa

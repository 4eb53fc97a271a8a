/-
  A parameter that is a slice of scope operations.
-/
import Derived.Test.YtlmfoieolomcfaaSpAllM
import Derived.Test.YtlmfoieolomcfaaRows
import Derived.ProofKit
import Derived.OpenShut
import Derived.ShutString
import Derived.Deep.SlicePairs
import Derived.Deep.Strs
import Derived.DataShut
namespace Go.Proofs.Ytlmfoieolomcfaa
open Go.ChangeShapes Go.WideShapes Go.ChangeAt Go.RowKit Go.Deep
open Go.ChangeMaps (open_string shut_string)
structure Opn where
  k : Int
  n : ByteArray
def op0 : Opn := ⟨0, ⟨#[]⟩⟩
def Opn.cells (e : Opn) : List Value := [.int .i64 e.k, .string e.n]
def Opn.wf (e : Opn) : Prop := (Lit.int .i64 e.k).wf = true ∧ e.n.size ≤ maxLen
/-- A slice holds these operations. -/
def Opns (w : World) (v : Value) (L : List Opn) : Prop :=
  ∃ a c, v = .slice a L.length c ∧ L.length ≤ c ∧ c ≤ maxLen ∧ (0 < L.length → ∃ g off, a = some ⟨g, off, none⟩ ∧ g < w.heap.size ∧ ∀ i, i < L.length → w.cell? ⟨g, off + i * 2, none⟩ = some (.int .i64 (L.getD i op0).k) ∧ w.cell? ⟨g, off + i * 2 + 1, none⟩ = some (.string (L.getD i op0).n))
theorem Try.cellsO3 : Try.prog.cellsOf 3 = 1 := by kernel_rfl
theorem Try.cellsO9 : Try.prog.cellsOf 9 = 1 := by kernel_rfl
theorem Try.cellsO28 : Try.prog.cellsOf 28 = 2 := by kernel_rfl
section
variable {H : Type} {enc : TypeId × Value → H} {w : World} {base : Nat} {sp : Nat → Bool} {held : Bool}
theorem open_opn {n : Nat} {cs : List Value} {x : DataW H × List MemPlace} (hl : cs.length = 2) (h : DataW.trod enc Try.prog w base sp held n 28 cs = some x) : ∃ e : Opn, cs = e.cells ∧ e.wf := by
  match cs, hl with
  | [c0, c1], _ =>
  obtain ⟨xs, n, _, hx, _, hl, hall⟩ := DataW.trod_struct Try.underlying28 h
  match xs, hl with
  | [y0, y1], _ =>
  have e0 := hall 0 _ rfl
  have e1 := hall 1 _ rfl
  obtain ⟨p, g0, rfl, w0⟩ := DataW.trod_int Try.underlying3 e0
  obtain ⟨s, g1, rfl, w1⟩ := DataW.trod_string Try.underlying9 e1
  simp [Try.cellsO3, Try.cellsO9] at g0 g1
  subst g0 g1
  exact ⟨⟨p, s⟩, rfl, w0, w1⟩
theorem opns_in {a : Option Addr} {len cap : Nat} {d : DataW H} {p : List MemPlace}
    (h : DataW.Trod enc Try.prog w base sp held 22 (.slice a len cap) d p) : ∃ L, Opns w (.slice a len cap) L ∧ ∀ e ∈ L, e.wf := by
  obtain ⟨fuel, hf⟩ := h
  rcases open_slice Try.underlying22 hf with ⟨hcs, _⟩ | ⟨x, l, c, m, k, D, Pl, hcs, hb, hl, hm, hmm, _, hx⟩
  · simp [Value.cells] at hcs
    obtain ⟨rfl, rfl, rfl⟩ := hcs
    exact ⟨[], ⟨none, 0, rfl, Nat.le_refl _, Nat.zero_le _, fun h => by simp at h⟩, fun e he => by simp at he⟩
  · simp [Value.cells] at hcs
    obtain ⟨rfl, rfl, rfl⟩ := hcs
    have hlm : len ≤ m := by rw [hmm]; split <;> omega
    have each : ∀ i, i < m → ∃ e : Opn, (∀ j, j < 2 → w.cell? (x.add (i * 2 + j)) = e.cells[j]?) ∧ e.wf := by
      intro i hi
      obtain ⟨cs', h1, h2⟩ := hx i hi
      rw [Try.cellsO28] at h1
      obtain ⟨_, hlen, hcell⟩ := World.cells?_some h1
      obtain ⟨e, rfl, hw⟩ := open_opn hlen h2
      refine ⟨e, fun j hj => ?_, hw⟩
      have := hcell j (by omega)
      rw [add_add] at this
      rw [this]
    haveI : Inhabited Opn := ⟨op0⟩
    obtain ⟨E, hE⟩ := choose_lt each
    have hln : ((List.range len).map E).length = len := by simp
    refine ⟨(List.range len).map E, ⟨some x, cap, by rw [hln], by rw [hln]; exact hl, hm, fun h0 => ?_⟩, fun e he => ?_⟩
    · rw [hln] at h0
      obtain ⟨b, off, spot⟩ := x
      have h00 := (hE 0 (by omega)).1 0 (by omega)
      have hspot : spot = none := by simpa [Addr.add] using World.cell?_spot (h00.trans rfl)
      subst hspot
      have hat : ∀ i, i < len → ∀ j, j < 2 → w.cell? ⟨b, off + i * 2 + j, none⟩ = (E i).cells[j]? := fun i hi j hj => by
        have := (hE i (by omega)).1 j hj
        rw [Go.WideShapes.add_plain] at this
        rw [← this, Nat.add_assoc]
      refine ⟨b, off, rfl, World.block_lt_of_cell? w ⟨b, off + 0 * 2 + 0, none⟩ (hat 0 h0 0 (by omega)), fun i hi => ?_⟩
      rw [hln] at hi
      rw [show ((List.range len).map E).getD i op0 = E i by simp [List.getD, hi]]
      exact ⟨hat i hi 0 (by omega), hat i hi 1 (by omega)⟩
    · obtain ⟨i, hi, rfl⟩ := List.mem_map.1 he
      exact (hE i (by have := List.mem_range.1 hi; omega)).2
end
end Go.Proofs.Ytlmfoieolomcfaa

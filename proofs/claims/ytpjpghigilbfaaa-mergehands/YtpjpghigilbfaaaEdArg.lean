/-
  A list of edits that came in: opened, and shut again.
-/
import Derived.Test.YtpjpghigilbfaaaOwnEd
import Derived.Test.YtpjpghigilbfaaaRows
import Derived.ProofKit
import Derived.OpenShut
import Derived.ShutString
import Derived.Deep.SlicePairs
import Derived.Deep.Strs
import Derived.DataShut
namespace Go.Proofs.Ytpjpghigilbfaaa
open Go.ChangeShapes Go.WideShapes Go.ChangeAt Go.RowKit Go.Deep
open Go.ChangeMaps (open_string shut_string)
theorem Try.cells3 : Try.prog.cellsOf 3 = 1 := by kernel_rfl
theorem Try.cells9 : Try.prog.cellsOf 9 = 1 := by kernel_rfl
theorem Try.cells29 : Try.prog.cellsOf 29 = 3 := by kernel_rfl
def Ed.dat {H : Type} (e : Ed) : DataW H := .agg [.lit (.int .i64 e.p), .lit (.int .i64 e.n), .lit (.string e.s.data.toList)]
def Ed.wf (e : Ed) : Prop := (Lit.int .i64 e.p).wf = true ∧ (Lit.int .i64 e.n).wf = true ∧ e.s.size ≤ maxLen
section
variable {H : Type} {enc : TypeId × Value → H} {w : World} {base : Nat} {sp : Nat → Bool} {held : Bool}
theorem open_ed {n : Nat} {cs : List Value} {x : DataW H × List MemPlace} (hl : cs.length = 3) (h : DataW.trod enc Try.prog w base sp held n 29 cs = some x) : ∃ e : Ed, cs = e.cells ∧ x = (e.dat, []) ∧ e.wf := by
  match cs, hl with
  | [c0, c1, c2], _ =>
  obtain ⟨xs, n, _, hx, _, hl, hall⟩ := DataW.trod_struct Try.underlying29 h
  match xs, hl with
  | [y0, y1, y2], _ =>
  have e0 := hall 0 _ rfl
  have e1 := hall 1 _ rfl
  have e2 := hall 2 _ rfl
  obtain ⟨p, g0, rfl, w0⟩ := DataW.trod_int Try.underlying3 e0
  obtain ⟨k, g1, rfl, w1⟩ := DataW.trod_int Try.underlying3 e1
  obtain ⟨s, g2, rfl, w2⟩ := DataW.trod_string Try.underlying9 e2
  simp [Try.cells3, Try.cells9] at g0 g1 g2
  subst g0 g1 g2
  exact ⟨⟨p, k, s⟩, rfl, by simpa [Ed.dat] using hx, w0, w1, w2⟩
theorem shut_ed (e : Ed) (h : e.wf) : DataW.trod enc Try.prog w base sp held 2 29 e.cells = some (e.dat, []) := by
  obtain ⟨h0, h1, h2⟩ := h
  have := trod_struct_mk (enc := enc) (P := Try.prog) (w := w) (base := base) (spare := sp) (held := held) (n := 1) (t := 29) (cs := e.cells) (xs := [(.lit (.int .i64 e.p), []), (.lit (.int .i64 e.n), []), (.lit (.string e.s.data.toList), [])]) Try.underlying29 (by rw [Try.cells29]; rfl)
    (by simp [DataW.trod, Ed.cells, Try.underlying3, Try.underlying9, Try.cells3, Try.cells9, h0, h1, h2])
  exact this
theorem nil_flat (l : List Nat) : (l.flatMap fun _ => ([] : List MemPlace)) = [] := by simp
theorem open_eds {n : Nat} {cs : List Value} {x : DataW H × List MemPlace} (h : DataW.trod enc Try.prog w base sp held n 22 cs = some x) :
    (cs = [.slice none 0 0] ∧ x = (.nil, [])) ∨
    ∃ (a : Addr) (len cap m : Nat) (E : Nat → Ed), cs = [.slice (some a) len cap] ∧ base ≤ a.block ∧ len ≤ cap ∧ cap ≤ maxLen ∧ m = (if sp a.block then cap else len) ∧
      x = (.slice ((List.range len).map fun i => (E i).dat) ((List.range (m - len)).map fun j => (E (len + j)).dat), MemPlace.row a (m * 3)) ∧
      ∀ i, i < m → (∀ j, j < 3 → w.cell? (a.add (i * 3 + j)) = (E i).cells[j]?) ∧ (E i).wf := by
  rcases open_slice Try.underlying22 h with h0 | ⟨a, len, cap, m, k, D, Pl, rfl, hb, hl, hm, hmm, rfl, hx⟩
  · exact Or.inl h0
  right
  have hlm : len ≤ m := by rw [hmm]; split <;> omega
  have each : ∀ i, i < m → ∃ e : Ed, (∀ j, j < 3 → w.cell? (a.add (i * 3 + j)) = e.cells[j]?) ∧ D i = e.dat ∧ Pl i = [] ∧ e.wf := by
    intro i hi
    obtain ⟨cs', h1, h2⟩ := hx i hi
    rw [Try.cells29] at h1
    obtain ⟨_, hlen, hcell⟩ := World.cells?_some h1
    obtain ⟨e, rfl, he, hw⟩ := open_ed hlen h2
    simp only [Prod.mk.injEq] at he
    refine ⟨e, fun j hj => ?_, he.1, he.2, hw⟩
    have := hcell j (by omega)
    rw [add_add] at this
    rw [this]
  haveI : Inhabited Ed := ⟨ed0⟩
  obtain ⟨E, hE⟩ := choose_lt each
  refine ⟨a, len, cap, m, E, rfl, hb, hl, hm, hmm, ?_, fun i hi => ⟨(hE i hi).1, (hE i hi).2.2.2⟩⟩
  rw [Try.cells29, List.map_congr_left (fun i hi => (hE i (by have := List.mem_range.1 hi; omega)).2.1), List.map_congr_left (fun j hj => (hE (len + j) (by have := List.mem_range.1 hj; omega)).2.1),
    flatMap_congr_range (fun i hi => (hE i hi).2.2.1), nil_flat, List.append_nil]
/-- Read again, in a world whose cells there are as they were. -/
theorem shut_eds {a : Addr} {len cap m : Nat} (E : Nat → Ed) (hb : base ≤ a.block) (hl : len ≤ cap) (hm : cap ≤ maxLen) (hmm : m = (if sp a.block then cap else len)) (h : ∀ i, i < m → (∀ j, j < 3 → w.cell? (a.add (i * 3 + j)) = (E i).cells[j]?) ∧ (E i).wf) :
    DataW.Trod enc Try.prog w base sp held 22 (.slice (some a) len cap) (.slice ((List.range len).map fun i => (E i).dat) ((List.range (m - len)).map fun j => (E (len + j)).dat)) (MemPlace.row a (m * 3)) := by
  have one : ∀ i, i < m → ∃ cs n, w.cells? base (a.add (i * Try.prog.cellsOf 29)) (Try.prog.cellsOf 29) = some cs ∧ DataW.trod enc Try.prog w base sp held n 29 cs = some ((E i).dat, []) := fun i hi => by
    refine ⟨(E i).cells, 2, ?_, shut_ed (E i) (h i hi).2⟩
    rw [Try.cells29]
    refine World.cells?_of_each (by rw [Go.ChangeShapes.block_add]; exact hb) rfl fun j hj => ?_
    rw [add_add]
    exact (h i hi).1 j hj
  cases hs : sp a.block with
  | true =>
    rw [hs] at hmm
    obtain rfl : m = cap := by simpa using hmm
    have := shut_slice_whole (enc := enc) (held := held) Try.underlying22 hb hl hm hs (fun i => (E i).dat) (fun _ => []) one
    rw [Try.cells29, nil_flat, List.append_nil] at this
    simpa using this
  | false =>
    rw [hs] at hmm
    obtain rfl : m = len := by simpa using hmm
    have := shut_slice (enc := enc) (held := held) Try.underlying22 hb hl hm hs (fun i => (E i).dat) (fun _ => []) one
    rw [Try.cells29, nil_flat, List.append_nil] at this
    simpa using this
end
/-- What came in holds these edits. -/
theorem eds_of {w : World} {a : Addr} {len cap m : Nat} {E : Nat → Ed} (hl : len ≤ m) (hc : len ≤ cap) (hm : cap ≤ maxLen) (h : ∀ i, i < m → (∀ j, j < 3 → w.cell? (a.add (i * 3 + j)) = (E i).cells[j]?) ∧ (E i).wf) :
    Eds w (.slice (some a) len cap) ((List.range len).map E) ∧ ∀ e ∈ (List.range len).map E, e.wf := by
  have hln : ((List.range len).map E).length = len := by simp
  refine ⟨⟨some a, cap, by rw [hln], by rw [hln]; exact hc, hm, fun h0 => ?_⟩, fun e he => ?_⟩
  · rw [hln] at h0
    obtain ⟨b, off, spot⟩ := a
    have h00 := (h 0 (by omega)).1 0 (by omega)
    have hspot : spot = none := by simpa [Addr.add] using World.cell?_spot (h00.trans rfl)
    subst hspot
    have hat : ∀ i, i < len → ∀ j, j < 3 → w.cell? ⟨b, off + i * 3 + j, none⟩ = (E i).cells[j]? := fun i hi j hj => by
      have := (h i (by omega)).1 j hj
      rw [Go.WideShapes.add_plain] at this
      rw [← this, Nat.add_assoc]
    refine ⟨b, off, rfl, World.block_lt_of_cell? w ⟨b, off + 0 * 3 + 0, none⟩ (hat 0 h0 0 (by omega)), fun i hi => ?_⟩
    rw [hln] at hi
    rw [show ((List.range len).map E).getD i ed0 = E i by simp [List.getD, hi]]
    exact ⟨hat i hi 0 (by omega), hat i hi 1 (by omega), hat i hi 2 (by omega)⟩
  · obtain ⟨i, hi, rfl⟩ := List.mem_map.1 he
    exact (h i (by have := List.mem_range.1 hi; omega)).2
theorem eds_in {H : Type} {enc : TypeId × Value → H} {w : World} {base : Nat} {sp : Nat → Bool} {held : Bool} {a : Option Addr} {len cap : Nat} {d : DataW H} {p : List MemPlace}
    (h : DataW.Trod enc Try.prog w base sp held 22 (.slice a len cap) d p) : ∃ L, Eds w (.slice a len cap) L ∧ ∀ e ∈ L, e.wf := by
  obtain ⟨fuel, hf⟩ := h
  rcases open_eds hf with ⟨hcs, _⟩ | ⟨x, l, c, m, E, hcs, _, hl, hm, hmm, _, hE⟩
  · simp [Value.cells] at hcs
    obtain ⟨rfl, rfl, rfl⟩ := hcs
    exact ⟨[], ⟨none, 0, rfl, Nat.le_refl _, Nat.zero_le _, fun h => by simp at h⟩, fun e he => by simp at he⟩
  · simp [Value.cells] at hcs
    obtain ⟨rfl, rfl, rfl⟩ := hcs
    exact ⟨_, eds_of (by rw [hmm]; split <;> omega) hl hm hE⟩
end Go.Proofs.Ytpjpghigilbfaaa

/-
  A tree and a list of tokens that came in: opened.
-/
import Derived.Test.YtiknnobgoamgcaaGreatDoorMWkRow
import Derived.Test.YtiknnobgoamgcaaGreatDoorMRShape
import Derived.Test.YtiknnobgoamgcaaGreatDoorRows
import Derived.ShutString
import Derived.ProofKit
import Derived.OpenShut
import Derived.Deep.SlicePairs
import Derived.Deep.Strs
import Derived.DataShut
import Derived.ChangeArms
namespace Go.Proofs.YtiknnobgoamgcaaGreatDoor
open Go.ChangeShapes Go.WideShapes Go.ChangeAt Go.RowKit Go.Deep
open Go.ChangeMaps (open_string shut_string)
set_option linter.unusedSimpArgs false
set_option linter.unusedVariables false
set_option linter.constructorNameAsVariable false
set_option maxRecDepth 100000
theorem Tryz.cells3 : Tryz.prog.cellsOf 3 = 1 := by kernel_rfl
theorem Tryz.cells9 : Tryz.prog.cellsOf 9 = 1 := by kernel_rfl
theorem Tryz.cells4 : Tryz.prog.cellsOf 4 = 1 := by kernel_rfl
theorem Tryz.cells50 : Tryz.prog.cellsOf 50 = 5 := by kernel_rfl
def Tk.dat {H : Type} (t : Tk) : DataW H := .agg [.lit (.int .i64 t.k), .lit (.string t.s.data.toList), .lit (.int .i64 t.p), .lit (.int .i64 t.l), .lit (.bool t.q)]
theorem Tryz.cells24 : Tryz.prog.cellsOf 24 = 3 := by kernel_rfl
theorem Tryz.cells22 : Tryz.prog.cellsOf 22 = 1 := by kernel_rfl
def KOne (k : Int) : Prop := -9223372036854775808 ≤ k ∧ k ≤ 9223372036854775807
/-- Nodes one behind the other are a forest. -/
theorem wd_build {w : World} {b : Nat} : ∀ (m o : Nat), (∀ i, i < m → ∃ (k t : Int) (a : Option Addr) (n c : Nat) (f : F), w.cell? ⟨b, o + i * 3, none⟩ = some (.int .i64 k) ∧ w.cell? ⟨b, o + i * 3 + 1, none⟩ = some (.int .i64 t) ∧ w.cell? ⟨b, o + i * 3 + 2, none⟩ = some (.slice a n c) ∧ Wl w a n c f ∧ KOne k ∧ KInt f) →
    ∃ f' : F, f'.len = m ∧ WdQ w f' b o ∧ KInt f'
  | 0, o, _ => ⟨.nil, rfl, trivial, trivial⟩
  | m + 1, o, h => by
    obtain ⟨k, t, a, n, c, f, h0, h1, h2, hw, hk, hK⟩ := h 0 (by omega)
    obtain ⟨f', hl, hq, hK'⟩ := wd_build m (o + 3) (fun i hi => by
      obtain ⟨k, t, a, n, c, f, h0, h1, h2, hw, hk, hK⟩ := h (i + 1) (by omega)
      rw [show o + (i + 1) * 3 = o + 3 + i * 3 by omega] at h0 h1 h2
      exact ⟨k, t, a, n, c, f, h0, h1, h2, hw, hk, hK⟩)
    exact ⟨.cons k t f f', by simp only [F.len, hl], ⟨by simpa using h0, by simpa using h1, ⟨a, n, c, by simpa using h2, hw⟩, hq⟩, hk, hK, hK'⟩
section
variable {H : Type} {enc : TypeId × Value → H} {w : World} {base : Nat} {sp : Nat → Bool} {held : Bool}
theorem node_trod : ∀ (fuel : Nat) (cs : List Value) (x : DataW H × List MemPlace), cs.length = 3 → DataW.trod enc Tryz.prog w base sp held fuel 24 cs = some x →
    ∃ (k t : Int) (a : Option Addr) (n c : Nat) (f : F), cs = [.int .i64 k, .int .i64 t, .slice a n c] ∧ Wl w a n c f ∧ KOne k ∧ KInt f := by
  intro fuel
  induction fuel using Nat.strongRecOn with
  | ind fuel ih =>
    intro cs x hl h
    match cs, hl with
    | [c0, c1, c2], _ =>
    obtain ⟨xs, n1, rfl, hx, _, hl, hall⟩ := DataW.trod_struct Tryz.underlying24 h
    match xs, hl with
    | [y0, y1, y2], _ =>
    have e0 := hall 0 _ rfl
    have e1 := hall 1 _ rfl
    have e2 := hall 2 _ rfl
    obtain ⟨k, g0, rfl, w0⟩ := DataW.trod_int Tryz.underlying3 e0
    obtain ⟨t, g1, rfl, w1⟩ := DataW.trod_int Tryz.underlying3 e1
    simp [Value.cells, Tryz.cells3] at g0 g1
    subst g0 g1
    have e3 : DataW.trod enc Tryz.prog w base sp held n1 22 [c2] = some y2 := by simpa [Tryz.cells22] using e2
    rcases DataW.trod_slice Tryz.underlying22 e3 with ⟨hc, _⟩ | ⟨ad, len, cap, elems, rest, n2, rfl, hc, _, hb, hlc, hcm, hel, hat, _, _⟩
    · simp only [List.cons.injEq, and_true] at hc
      subst hc
      exact ⟨k, t, none, 0, 0, .nil, rfl, ⟨rfl, ⟨Nat.le_refl _, fun _ => rfl⟩, Nat.zero_le _, fun h => absurd h (Nat.lt_irrefl 0)⟩, bounds_i64 w0, trivial⟩
    · simp only [List.cons.injEq, and_true] at hc
      subst hc
      rw [Tryz.cells24] at hat
      have each : ∀ i, i < len → ∃ (k t : Int) (a : Option Addr) (n c : Nat) (f : F), w.cell? ((ad.add (i * 3)).add 0) = some (.int .i64 k) ∧ w.cell? ((ad.add (i * 3)).add 1) = some (.int .i64 t) ∧ w.cell? ((ad.add (i * 3)).add 2) = some (.slice a n c) ∧ Wl w a n c f ∧ KOne k ∧ KInt f := by
        intro i hi
        have h1 := hat i hi
        rw [List.getElem?_eq_getElem (by omega), Option.bind_eq_some_iff] at h1
        obtain ⟨cs', h2, h3⟩ := h1
        obtain ⟨_, hlen, hcell⟩ := World.cells?_some h2
        obtain ⟨k', t', a', n', c', f', rfl, hw, hk, hK⟩ := ih n2 (by omega) cs' _ hlen h3
        exact ⟨k', t', a', n', c', f', hcell 0 (by omega), hcell 1 (by omega), hcell 2 (by omega), hw, hk, hK⟩
      rcases Nat.eq_zero_or_pos len with h0 | hp
      · subst h0
        exact ⟨k, t, some ad, 0, cap, .nil, rfl, ⟨rfl, ⟨Nat.zero_le _, fun h => by cases h⟩, hcm, fun h => absurd h (Nat.lt_irrefl 0)⟩, bounds_i64 w0, trivial⟩
      · obtain ⟨b, off, spot⟩ := ad
        have hspot : spot = none := by
          obtain ⟨_, _, _, _, _, _, h00, _⟩ := each 0 hp
          simpa [Addr.add] using World.cell?_spot h00
        subst hspot
        simp only [Go.WideShapes.add_plain] at each
        obtain ⟨f', hl', hq, hK⟩ := wd_build len off (fun i hi => each i hi)
        obtain ⟨_, _, _, _, _, _, h00, _⟩ := each 0 hp
        exact ⟨k, t, some ⟨b, off, none⟩, len, cap, f', rfl, ⟨hl'.symm, ⟨hlc, fun h => by cases h⟩, hcm, fun _ => ⟨b, off, rfl, World.block_lt_of_cell? w _ h00, hq⟩⟩, bounds_i64 w0, hK⟩
theorem node_in {v : Value} {d : DataW H} {p : List MemPlace} {b0 : Nat} {r : Reach} (hval : Value.okWide Tryz.prog w r b0 24 v) (h : DataW.Trod enc Tryz.prog w base sp held 24 v d p) :
    ∃ (k t : Int) (a : Option Addr) (n c : Nat) (f : F), v = .agg #[.int .i64 k, .int .i64 t, .slice a n c] ∧ Wl w a n c f ∧ KOne k ∧ KInt f := by
  obtain ⟨cs, rfl, hsz⟩ := okWide_struct Tryz.underlying24 hval
  rw [Tryz.cells24] at hsz
  obtain ⟨fuel, hf⟩ := h
  obtain ⟨k, t, a, n, c, f, he, h1⟩ := node_trod fuel _ _ (by simpa [Value.cells] using hsz) hf
  refine ⟨k, t, a, n, c, f, ?_, h1⟩
  obtain ⟨l⟩ := cs
  simp [Value.cells] at he
  rw [he]
/-- One token, off its cells. -/
theorem tok_cells {n : Nat} {cs : List Value} {x : DataW H × List MemPlace} (hsz : cs.length = 5) (hf : DataW.trod enc Tryz.prog w base sp held n 50 cs = some x) : ∃ t : Tk, cs = t.cells ∧ x = (t.dat, []) := by
  match cs, hsz with
  | [c0, c1, c2, c3, c4], _ =>
  obtain ⟨xs, n, _, hx, _, hl, hall⟩ := DataW.trod_struct Tryz.underlying50 hf
  match xs, hl with
  | [y0, y1, y2, y3, y4], _ =>
  have e0 := hall 0 _ rfl
  have e1 := hall 1 _ rfl
  have e2 := hall 2 _ rfl
  have e3 := hall 3 _ rfl
  have e4 := hall 4 _ rfl
  obtain ⟨k, g0, rfl, w0⟩ := DataW.trod_int Tryz.underlying3 e0
  obtain ⟨s, g1, rfl, w1⟩ := DataW.trod_string Tryz.underlying9 e1
  obtain ⟨p, g2, rfl, w2⟩ := DataW.trod_int Tryz.underlying3 e2
  obtain ⟨l, g3, rfl, w3⟩ := DataW.trod_int Tryz.underlying3 e3
  obtain ⟨q, g4, rfl⟩ := DataW.trod_bool Tryz.underlying4 e4
  simp [Value.cells, Tryz.cells3, Tryz.cells9, Tryz.cells4] at g0 g1 g2 g3 g4
  subst g0 g1 g2 g3 g4
  exact ⟨⟨k, s, p, l, q⟩, rfl, by simpa [Tk.dat] using hx⟩
theorem bulk_part {d : DataW H} {l : List (DataW H)} (h : d ∈ l) : Rows.uptoBulk d ≤ Rows.uptoBulkAll l := by
  induction l with
  | nil => cases h
  | cons x r ih =>
    simp only [Rows.uptoBulkAll]
    cases List.mem_cons.1 h with
    | inl e => subst e; omega
    | inr e => have := ih e; omega
theorem tks_in {a : Option Addr} {len cap : Nat} {d : DataW H} {p : List MemPlace} (h : DataW.Trod enc Tryz.prog w base sp held 25 (.slice a len cap) d p) :
    ∃ L : List Tk, Tows w (.slice a len cap) L ∧ ∀ x ∈ L, x.s.size ≤ Rows.uptoBulk d := by
  obtain ⟨fuel, hf⟩ := h
  rcases open_slice Tryz.underlying25 hf with ⟨hcs, _⟩ | ⟨x, l, c, m, k, D, Pl, hcs, hb, hl, hm, hmm, hx0, hx⟩
  · simp [Value.cells] at hcs
    obtain ⟨rfl, rfl, rfl⟩ := hcs
    exact ⟨[], ⟨none, 0, rfl, Nat.le_refl _, Nat.zero_le _, fun h => by simp at h⟩, fun e he => by simp at he⟩
  · simp [Value.cells] at hcs
    obtain ⟨rfl, rfl, rfl⟩ := hcs
    have hlm : len ≤ m := by rw [hmm]; split <;> omega
    have each : ∀ i, i < len → ∃ e : Tk, (∀ j, j < 5 → w.cell? (x.add (i * 5 + j)) = e.cells[j]?) ∧ D i = e.dat := by
      intro i hi
      obtain ⟨cs', h1, h2⟩ := hx i (by omega)
      rw [Tryz.cells50] at h1
      obtain ⟨_, hlen, hcell⟩ := World.cells?_some h1
      obtain ⟨e, rfl, he⟩ := tok_cells hlen h2
      simp only [Prod.mk.injEq] at he
      refine ⟨e, fun j hj => ?_, he.1⟩
      have := hcell j (by omega)
      rw [add_add] at this
      rw [this]
    haveI : Inhabited Tk := ⟨zTk⟩
    obtain ⟨E, hE⟩ := choose_lt each
    have hln : ((List.range len).map E).length = len := by simp
    refine ⟨(List.range len).map E, ⟨some x, cap, by rw [hln], by rw [hln]; exact hl, hm, fun h0 => ?_⟩, fun e he => ?_⟩
    · rw [hln] at h0
      obtain ⟨b, off, spot⟩ := x
      have h00 := (hE 0 h0).1 0 (by omega)
      have hspot : spot = none := by simpa [Addr.add] using World.cell?_spot (h00.trans rfl)
      subst hspot
      have hat : ∀ i, i < len → ∀ j, j < 5 → w.cell? ⟨b, off + i * 5 + j, none⟩ = (E i).cells[j]? := fun i hi j hj => by
        have := (hE i hi).1 j hj
        rw [Go.WideShapes.add_plain] at this
        rw [← this, Nat.add_assoc]
      refine ⟨b, off, rfl, World.block_lt_of_cell? w ⟨b, off + 0 * 5 + 0, none⟩ (hat 0 h0 0 (by omega)), fun i t hi => ?_⟩
      have hil : i < len := by
        have := (List.getElem?_eq_some_iff.1 hi).1
        rw [hln] at this
        exact this
      obtain rfl : E i = t := by simpa [hil] using hi
      exact ⟨hat i hil 0 (by omega), hat i hil 1 (by omega), hat i hil 2 (by omega), hat i hil 3 (by omega), hat i hil 4 (by omega)⟩
    · obtain ⟨i, hi, rfl⟩ := List.mem_map.1 he
      have hil : i < len := by simpa using hi
      have hd : d = .slice ((List.range len).map D) ((List.range (m - len)).map fun j => D (len + j)) := congrArg Prod.fst hx0
      have h1 : Rows.uptoBulk (D i) ≤ Rows.uptoBulkAll ((List.range len).map D) := bulk_part (List.mem_map.2 ⟨i, by simpa using hil, rfl⟩)
      rw [(hE i hil).2] at h1
      rw [hd]
      simp only [Tk.dat, Rows.uptoBulk, Rows.uptoBulkAll, Array.length_toList] at h1 ⊢
      have : (E i).s.size = (E i).s.data.size := rfl
      omega
end
end Go.Proofs.YtiknnobgoamgcaaGreatDoor

/-
  Arguments that are slices of bytes or numbers: what is told of them; slices cut at their ends.
-/
import Derived.Test.YtlmfoieolomcfaaRows
import Derived.Test.YtlmfoieolomcfaaBts
import Derived.WalkKit
import Derived.WalkSpells
import Derived.WalkLawsBesides
import Derived.Handy
import Derived.OpenShut
namespace Go.Proofs.Ytlmfoieolomcfaa
open Go.RowKit
theorem Try.info5 : (Try.prog.info? 5).map (fun i => (i.zero, i.size, i.bytes)) = some (some (.int .u8 0), 1, 1) := by kernel_rfl
theorem ret_int {k : IntKind} {a b : Int} (h : a = b) : Ending.returned (.int k a) = .returned (.int k b) := by rw [h]

theorem cell_alloc_at (w : World) (cs : Array Value) (t : Nat) (i : Nat) (h : i < cs.size) : (w.alloc (.cells cs t)).cell? ⟨w.heap.size, 0 + i, none⟩ = some (cs.getD i undef) := by
  rw [Nat.zero_add, cell_of_row _ w.heap.size i cs t (0, 0) (heap_alloc_new w _)]
  simp [Array.getD, h]
theorem below_alloc (w : World) (o : Obj) : Below w.heap.size w (w.alloc o) := (Below.refl _ _).alloc (Nat.le_refl _) o
theorem bts_alloc (w : World) (xs : List Int) (fr : Nat × Nat) (hx : Byt xs) (hl : xs.length ≤ 140737488355328) : Bts (w.alloc (.cells (xs.map (Value.int .u8)).toArray 5 fr)) (.slice (some ⟨w.heap.size, 0, none⟩) xs.length xs.length) xs :=
  Bts.ofCells hx hl (Nat.le_refl _) (by omega) (by simp) (fun i hi => by
    rw [Nat.zero_add, World.cell?_alloc_mark]
    simp [List.getD, hi])
/-- What is told of a slice of integers that came in. -/
def IsRow (k : IntKind) (w : World) (a : Option Addr) (len cap : Nat) (zs : List Int) : Prop :=
  (a = none ∧ len = 0 ∧ cap = 0 ∧ zs = []) ∨
  ∃ x, a = some x ∧ len ≤ cap ∧ cap ≤ maxLen ∧ zs.length = cap ∧ (∀ i, i < zs.length → w.cell? (x.add i) = some (.int k (zs.getD i 0))) ∧ ∀ n ∈ zs, (Lit.int k n).wf = true

theorem byt_wf {zs : List Int} (h : ∀ n ∈ zs, (Lit.int .u8 n).wf = true) : Byt zs := fun x hx => bounds_u8 (h x hx)
theorem getD_take (zs : List Int) (i k : Nat) (h : i < k) : (zs.take k).getD i 0 = zs.getD i 0 := by
  simp [List.getD, h]
theorem IsRow.below {k : IntKind} {w w' : World} {a : Option Addr} {len cap : Nat} {zs : List Int} (h : IsRow k w a len cap zs) (hb : Below w.heap.size w w') : IsRow k w' a len cap zs := by
  rcases h with h | ⟨x, h1, h2, h3, h4, hcell, h5⟩
  · exact .inl h
  · exact .inr ⟨x, h1, h2, h3, h4, fun i hi => (hb.cell (World.block_lt_of_cell? w _ (hcell i hi))).trans (hcell i hi), h5⟩
/-- The first m of its bytes. -/
theorem IsRow.bts {w : World} {a : Option Addr} {len cap : Nat} {zs : List Int} (h : IsRow .u8 w a len cap zs) (m : Nat) (hm : m ≤ len) (hb : m ≤ 140737488355328) : Bts w (.slice a m cap) (zs.take m) := by
  rcases h with ⟨rfl, rfl, rfl, rfl⟩ | ⟨x, rfl, hlc, hcm, hz, hcell, hwf⟩
  · obtain rfl : m = 0 := by omega
    exact bts_nil w
  · unfold maxLen at hcm
    rcases Nat.eq_zero_or_pos m with rfl | hp
    · exact ⟨by simpa using byt_nil, by simp, .inl ⟨by simp, _, cap, rfl, (fun e => by cases e), by omega⟩⟩
    · obtain ⟨b, off, rfl, hc⟩ := ints_at hcell (by omega)
      have hl : (zs.take m).length = m := by simp; omega
      have := Bts.ofCells (w := w) (b := b) (off := off) (cap := cap) (byt_take (byt_wf hwf) m) (by omega) (by omega) (by omega) (World.block_lt_of_cell? w _ (hc 0 (by omega)))
        (fun i hi => by rw [hl] at hi; rw [getD_take _ _ _ hi]; exact hc i (by omega))
      rw [hl] at this
      exact this
theorem bts_some {w : World} {v : Value} {xs : List Int} (h : Bts w v xs) (h0 : 0 < xs.length) : ∃ b off cap, v = .slice (some ⟨b, off, none⟩) xs.length cap ∧ xs.length ≤ cap ∧ cap ≤ 9223372036854775807 := by
  rcases h.2.2 with ⟨rfl, _⟩ | ⟨b, off, cap, rfl, _, h2, h3, _⟩
  · simp at h0
  · exact ⟨b, off, cap, rfl, h2, h3⟩
theorem bts_cells {w : World} {b off n cap : Nat} {xs : List Int} (h : Bts w (.slice (some ⟨b, off, none⟩) n cap) xs) (h0 : 0 < xs.length) : n = xs.length ∧ xs.length ≤ cap ∧ cap ≤ 9223372036854775807 ∧ b < w.heap.size ∧ ∀ i, i < xs.length → w.cell? ⟨b, off + i, none⟩ = some (.int .u8 (xs.getD i 0)) := by
  rcases h.2.2 with ⟨rfl, _⟩ | ⟨b', off', cap', he, _, h2, h3, h4, h5⟩
  · simp at h0
  · simp only [Value.slice.injEq, Option.some.injEq, Addr.mk.injEq] at he
    obtain ⟨⟨rfl, rfl, _⟩, rfl, rfl⟩ := he
    exact ⟨rfl, h2, h3, h4, h5⟩
/-- Cut at its end: v[:m]. -/
theorem Bts.take {w : World} {b off n cap : Nat} {xs : List Int} (h : Bts w (.slice (some ⟨b, off, none⟩) n cap) xs) (h0 : 0 < xs.length) (m : Nat) (hm : m ≤ xs.length) : Bts w (.slice (some ⟨b, off, none⟩) m cap) (xs.take m) := by
  obtain ⟨_, h2, h3, h4, h5⟩ := bts_cells h h0
  have hl : (xs.take m).length = m := by simp; omega
  have := Bts.ofCells (w := w) (b := b) (off := off) (cap := cap) (byt_take h.1 m) (by have := h.2.1; omega) (by omega) h3 h4
    (fun i hi => by rw [hl] at hi; rw [getD_take _ _ _ hi]; exact h5 i (by omega))
  rw [hl] at this
  exact this
/-- Cut at its beginning: v[k:]. -/
theorem Bts.drop {w : World} {b off n cap : Nat} {xs : List Int} (h : Bts w (.slice (some ⟨b, off, none⟩) n cap) xs) (h0 : 0 < xs.length) (k : Nat) (hk : k ≤ xs.length) : Bts w (.slice (some ⟨b, off + k, none⟩) (xs.length - k) (cap - k)) (xs.drop k) := by
  obtain ⟨_, h2, h3, h4, h5⟩ := bts_cells h h0
  have hl : (xs.drop k).length = xs.length - k := by simp
  have := Bts.ofCells (w := w) (b := b) (off := off + k) (cap := cap - k) (byt_drop h.1 k) (by have := h.2.1; omega) (by omega) (by omega) h4
    (fun i hi => by
      rw [hl] at hi
      rw [Nat.add_assoc, h5 (k + i) (by omega)]
      congr 2
      simp [List.getD])
  rw [hl] at this
  exact this
/-- Cut at both ends: v[t:t+n], where v has room behind t. -/
theorem Bts.sub {w : World} {a : Option Addr} {m cap : Nat} {xs : List Int} (h : Bts w (.slice a m cap) xs) (hm : xs.length = m) (t n : Nat) (htn : t + n ≤ m) (hct : ¬ cap = t) : Bts w (.slice (a.map (·.add t)) n (cap - t)) ((xs.drop t).take n) := by
  rcases Nat.eq_zero_or_pos xs.length with h0 | h0
  · obtain rfl := List.eq_nil_of_length_eq_zero h0
    simp at hm
    obtain ⟨rfl, rfl⟩ : t = 0 ∧ n = 0 := by omega
    rcases h.2.2 with ⟨_, ao, cap', he, hao, hcm⟩ | ⟨_, _, _, _, h1, _⟩
    · simp only [Value.slice.injEq] at he
      obtain ⟨rfl, _, rfl⟩ := he
      refine ⟨by simpa using byt_nil, by simp, .inl ⟨by simp, _, _, rfl, ?_, by omega⟩⟩
      intro hn
      cases a with
      | none => exact absurd (hao rfl) (by omega)
      | some x => simp at hn
    · simp at h1
  · obtain ⟨b, off, cap', he, h1, h2⟩ := bts_some h h0
    simp only [Value.slice.injEq] at he
    obtain ⟨rfl, _, rfl⟩ := he
    obtain ⟨_, h2, h3, h4, h5⟩ := bts_cells h h0
    have hl : ((xs.drop t).take n).length = n := by simp; omega
    have := Bts.ofCells (w := w) (b := b) (off := off + t) (cap := cap - t) (byt_take (byt_drop h.1 t) n) (by have := h.2.1; omega) (by omega) (by omega) h4
      (fun i hi => by
        rw [hl] at hi
        rw [Nat.add_assoc, h5 (t + i) (by omega)]
        congr 2
        simp [List.getD, hi])
    rw [hl] at this
    rw [Option.map_some, show ((⟨b, off, none⟩ : Addr).add t) = ⟨b, off + t, none⟩ by unfold Addr.add; split <;> simp_all]
    exact this
/-- Its cells, one by one, also later. -/
theorem Bts.at {w w' : World} {a : Option Addr} {m cap : Nat} {xs : List Int} (h : Bts w (.slice a m cap) xs) (h0 : 0 < xs.length) (hb : Below w.heap.size w w') : ∃ b off, a = some ⟨b, off, none⟩ ∧ b < w.heap.size ∧ ∀ i, i < xs.length → w'.cell? ⟨b, off + i, none⟩ = some (.int .u8 (xs.getD i 0)) := by
  obtain ⟨b, off, cap', he, h1, h2⟩ := bts_some h h0
  simp only [Value.slice.injEq] at he
  obtain ⟨rfl, _, rfl⟩ := he
  obtain ⟨_, _, _, h4, h5⟩ := bts_cells h h0
  exact ⟨b, off, rfl, h4, fun i hi => by rw [hb.cell (by exact h4)]; exact h5 i hi⟩
/-- Where nothing is behind. -/
theorem bts_end (w : World) (a : Option Addr) : Bts w (.slice a 0 0) [] := ⟨byt_nil, by simp, .inl ⟨rfl, a, 0, rfl, fun _ => rfl, by omega⟩⟩
theorem Bts.pre {w : World} {a : Option Addr} {m cap : Nat} {xs : List Int} (h : Bts w (.slice a m cap) xs) (hm : xs.length = m) (n : Nat) (hn : n ≤ m) : Bts w (.slice a n cap) (xs.take n) := by
  rcases Nat.eq_zero_or_pos xs.length with h0 | h0
  · obtain rfl := List.eq_nil_of_length_eq_zero h0
    simp at hm
    obtain rfl : n = m := by omega
    simpa using h
  · obtain ⟨b, off, cap', he, h1, h2⟩ := bts_some h h0
    simp only [Value.slice.injEq] at he
    obtain ⟨rfl, _, rfl⟩ := he
    exact h.take h0 n (by omega)
theorem bts_none_left {w : World} {b off cap : Nat} {xs : List Int} (k : Nat) (hk : xs.length ≤ k) (hc : cap ≤ 9223372036854775807) : Bts w (.slice (some ⟨b, off, none⟩) 0 cap) (xs.drop k) := by
  rw [List.drop_of_length_le hk]
  exact ⟨byt_nil, by simp, .inl ⟨rfl, _, cap, rfl, (fun e => by cases e), hc⟩⟩
end Go.Proofs.Ytlmfoieolomcfaa

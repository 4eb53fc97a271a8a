/-
  Arguments that are slices of bytes or texts, cut to a length: Short, Cut.
-/
import Derived.Test.YtafchnieimhlbaaNumText
import Derived.OpenShut
namespace Go.Proofs.Ytafchnieimhlbaa
open Go.RowKit

/-- What is told of a slice of integers that came in. -/
def IsRow (k : IntKind) (w : World) (a : Option Addr) (len cap : Nat) (zs : List Int) : Prop :=
  (a = none ∧ len = 0 ∧ cap = 0 ∧ zs = []) ∨
  ∃ x, a = some x ∧ len ≤ cap ∧ cap ≤ maxLen ∧ zs.length = cap ∧ (∀ i, i < zs.length → w.cell? (x.add i) = some (.int k (zs.getD i 0))) ∧ ∀ n ∈ zs, (Lit.int k n).wf = true

theorem byt_wf {zs : List Int} (h : ∀ n ∈ zs, (Lit.int .u8 n).wf = true) : Byt zs := fun x hx => bounds_u8 (h x hx)
theorem getD_take (zs : List Int) (i k : Nat) (h : i < k) : (zs.take k).getD i 0 = zs.getD i 0 := by
  simp [List.getD, h]
theorem IsRow.below {k : IntKind} {w w' : World} {a : Option Addr} {len cap : Nat} {zs : List Int} (h : IsRow k w a len cap zs) (hb : Below w.heap.size w w') : IsRow k w' a len cap zs := by
  rcases h with h | ⟨x, h1, h2, h3, h4, hcell, h5⟩
  · exact .inl h
  · exact .inr ⟨x, h1, h2, h3, h4, fun i hi => (hb.cell (World.block_lt_of_cell? w _ (hcell i hi))).trans (hcell i hi), h5⟩
/-- The first m of its bytes. -/
theorem IsRow.bts {w : World} {a : Option Addr} {len cap : Nat} {zs : List Int} (h : IsRow .u8 w a len cap zs) (m : Nat) (hm : m ≤ len) (hb : m ≤ 140737488355328) : Bts w (.slice a m cap) (zs.take m) := by
  rcases h with ⟨rfl, rfl, rfl, rfl⟩ | ⟨x, rfl, hlc, hcm, hz, hcell, hwf⟩
  · obtain rfl : m = 0 := by omega
    exact bts_nil w
  · unfold maxLen at hcm
    rcases Nat.eq_zero_or_pos m with rfl | hp
    · exact ⟨by simpa using byt_nil, by simp, .inl ⟨by simp, _, cap, rfl, (fun e => by cases e), by omega⟩⟩
    · obtain ⟨b, off, rfl, hc⟩ := ints_at hcell (by omega)
      have hl : (zs.take m).length = m := by simp; omega
      have := Bts.ofCells (w := w) (b := b) (off := off) (cap := cap) (byt_take (byt_wf hwf) m) (by omega) (by omega) (by omega) (World.block_lt_of_cell? w _ (hc 0 (by omega)))
        (fun i hi => by rw [hl] at hi; rw [getD_take _ _ _ hi]; exact hc i (by omega))
      rw [hl] at this
      exact this
theorem bts_some {w : World} {v : Value} {xs : List Int} (h : Bts w v xs) (h0 : 0 < xs.length) : ∃ b off cap, v = .slice (some ⟨b, off, none⟩) xs.length cap ∧ xs.length ≤ cap ∧ cap ≤ 9223372036854775807 := by
  rcases h.2.2 with ⟨rfl, _⟩ | ⟨b, off, cap, rfl, _, h2, h3, _⟩
  · simp at h0
  · exact ⟨b, off, cap, rfl, h2, h3⟩
theorem bts_cells {w : World} {b off n cap : Nat} {xs : List Int} (h : Bts w (.slice (some ⟨b, off, none⟩) n cap) xs) (h0 : 0 < xs.length) : n = xs.length ∧ xs.length ≤ cap ∧ cap ≤ 9223372036854775807 ∧ b < w.heap.size ∧ ∀ i, i < xs.length → w.cell? ⟨b, off + i, none⟩ = some (.int .u8 (xs.getD i 0)) := by
  rcases h.2.2 with ⟨rfl, _⟩ | ⟨b', off', cap', he, _, h2, h3, h4, h5⟩
  · simp at h0
  · simp only [Value.slice.injEq, Option.some.injEq, Addr.mk.injEq] at he
    obtain ⟨⟨rfl, rfl, _⟩, rfl, rfl⟩ := he
    exact ⟨rfl, h2, h3, h4, h5⟩
/-- Cut at its end: v[:m]. -/
theorem Bts.take {w : World} {b off n cap : Nat} {xs : List Int} (h : Bts w (.slice (some ⟨b, off, none⟩) n cap) xs) (h0 : 0 < xs.length) (m : Nat) (hm : m ≤ xs.length) : Bts w (.slice (some ⟨b, off, none⟩) m cap) (xs.take m) := by
  obtain ⟨_, h2, h3, h4, h5⟩ := bts_cells h h0
  have hl : (xs.take m).length = m := by simp; omega
  have := Bts.ofCells (w := w) (b := b) (off := off) (cap := cap) (byt_take h.1 m) (by have := h.2.1; omega) (by omega) h3 h4
    (fun i hi => by rw [hl] at hi; rw [getD_take _ _ _ hi]; exact h5 i (by omega))
  rw [hl] at this
  exact this
/-- Cut at its beginning: v[k:]. -/
theorem Bts.drop {w : World} {b off n cap : Nat} {xs : List Int} (h : Bts w (.slice (some ⟨b, off, none⟩) n cap) xs) (h0 : 0 < xs.length) (k : Nat) (hk : k ≤ xs.length) : Bts w (.slice (some ⟨b, off + k, none⟩) (xs.length - k) (cap - k)) (xs.drop k) := by
  obtain ⟨_, h2, h3, h4, h5⟩ := bts_cells h h0
  have hl : (xs.drop k).length = xs.length - k := by simp
  have := Bts.ofCells (w := w) (b := b) (off := off + k) (cap := cap - k) (byt_drop h.1 k) (by have := h.2.1; omega) (by omega) (by omega) h4
    (fun i hi => by
      rw [hl] at hi
      rw [Nat.add_assoc, h5 (k + i) (by omega)]
      congr 2
      simp [List.getD])
  rw [hl] at this
  exact this
theorem bts_none_left {w : World} {b off cap : Nat} {xs : List Int} (k : Nat) (hk : xs.length ≤ k) (hc : cap ≤ 9223372036854775807) : Bts w (.slice (some ⟨b, off, none⟩) 0 cap) (xs.drop k) := by
  rw [List.drop_of_length_le hk]
  exact ⟨byt_nil, by simp, .inl ⟨rfl, _, cap, rfl, (fun e => by cases e), hc⟩⟩
/-- Put(nil, n), PutText(nil, s): where the bytes lie. -/
theorem put_nil (n : Int) (w : World) (h0 : -9223372036854775808 ≤ n) (h1 : n ≤ 9223372036854775807) :
    Calls Try.prog 12 #[.slice none 0 0, .int .i64 n] w fun e w' => ∃ b off cap, e = .returned (.slice (some ⟨b, off, none⟩) (digs (zz n)).length cap) ∧ (digs (zz n)).length ≤ cap ∧ cap ≤ 9223372036854775807 ∧ Bts w' (.slice (some ⟨b, off, none⟩) (digs (zz n)).length cap) (digs (zz n)) ∧ Below w.heap.size w w' := by
  have hdl := digs_len (zz n)
  refine (put_any _ [] n w (bts_nil _) (by simp) h0 h1).mono fun e w' ⟨v, he, hown, hbel⟩ => ?_
  rw [List.nil_append] at hown
  have hB := Bts.ofOwn hown (digs_byt _ (zz_lt n h0 h1)) (by omega)
  obtain ⟨b, off, cap, rfl, hc1, hc2⟩ := bts_some hB (by omega)
  exact ⟨b, off, cap, he, hc1, hc2, hB, hbel⟩
theorem putText_nil (s : ByteArray) (w : World) (hs : s.size ≤ 1000000) :
    Calls Try.prog 13 #[.slice none 0 0, .string s] w fun e w' => ∃ b off cap, e = .returned (.slice (some ⟨b, off, none⟩) (digs (zz s.size) ++ bts s).length cap) ∧ (digs (zz s.size) ++ bts s).length ≤ cap ∧ cap ≤ 9223372036854775807 ∧ Bts w' (.slice (some ⟨b, off, none⟩) (digs (zz s.size) ++ bts s).length cap) (digs (zz s.size) ++ bts s) ∧ Below w.heap.size w w' := by
  have hdl := digs_len (zz s.size)
  have hsl := bts_length s
  refine (putText_any _ [] s w (bts_nil _) (by simp; omega)).mono fun e w' ⟨v, he, hown, hbel⟩ => ?_
  rw [List.nil_append] at hown
  have hB := Bts.ofOwn hown (byt_append (digs_byt _ (zz_lt s.size (by omega) (by omega))) (bts_byt s)) (by simp; omega)
  obtain ⟨b, off, cap, rfl, hc1, hc2⟩ := bts_some hB (by simp; omega)
  exact ⟨b, off, cap, he, hc1, hc2, hB, hbel⟩
set_option maxHeartbeats 400000 in
set_option maxRecDepth 100000 in
theorem short_any (a : Option Addr) (len cap : Nat) (zs : List Int) (n : Nat) (w : World) (h : IsRow .u8 w a len cap zs) (hn : n ≤ 1000000) :
    Calls Try.prog 10 #[.slice a len cap, .int .i64 n] w fun e w' => e = .returned (.slice a (min len n) cap) ∧ w' = w := by
  have hlc : len ≤ cap ∧ cap ≤ 9223372036854775807 := by
    rcases h with ⟨_, rfl, rfl, _⟩ | ⟨_, _, h1, h2, _⟩
    · omega
    · unfold maxLen at h2; omega
  by_cases hl : n < len
  · have ha : ∃ b off, a = some ⟨b, off, none⟩ := by
      rcases h with ⟨_, rfl, _⟩ | ⟨x, rfl, h1, h2, h3, hcell, _⟩
      · omega
      · obtain ⟨b, off, rfl, _⟩ := ints_at hcell (by omega)
        exact ⟨b, off, rfl⟩
    obtain ⟨b, off, rfl⟩ := ha
    rw [show min len n = n by omega]
    clear h
    go_enter Try.func10, Try.ntmps10
    go_wp2
    go_ret
    exact ⟨rfl, rfl⟩
  · rw [show min len n = len by omega]
    clear h
    go_enter Try.func10, Try.ntmps10
    go_wp2
    go_ret
    exact ⟨rfl, rfl⟩
theorem short_bts {a : Option Addr} {len cap : Nat} {zs : List Int} {n : Nat} {w : World} (h : IsRow .u8 w a len cap zs) (hn : n ≤ 1000000) : Bts w (.slice a (min len n) cap) (zs.take (min len n)) :=
  h.bts _ (Nat.min_le_left _ _) (by omega)
/-- A text cut. -/
def cutS (s : ByteArray) (n : Nat) : ByteArray := if n < s.size then s.extract 0 n else s
theorem cutS_le (s : ByteArray) (n : Nat) : (cutS s n).size ≤ n := by
  unfold cutS
  split
  · rw [ByteArray.size_extract]; omega
  · omega
set_option maxHeartbeats 400000 in
set_option maxRecDepth 100000 in
theorem cut_any (s : ByteArray) (n : Nat) (w : World) (_hs : s.size ≤ maxLen) (hn : n ≤ 1000000) :
    Calls Try.prog 11 #[.string s, .int .i64 n] w fun e w' => e = .returned (.string (cutS s n)) ∧ w' = w := by
  unfold maxLen at _hs
  unfold cutS
  by_cases hl : n < s.size
  · rw [if_pos hl]
    go_enter Try.func11, Try.ntmps11
    go_wp2
    go_ret
    exact ⟨rfl, rfl⟩
  · rw [if_neg hl]
    go_enter Try.func11, Try.ntmps11
    go_wp2
    go_ret
    exact ⟨rfl, rfl⟩
end Go.Proofs.Ytafchnieimhlbaa

/-
  Of, Same.
-/
import Derived.Test.YtiknnobgoamgcaaGreatDoorMShText
import Derived.Test.YtiknnobgoamgcaaGreatDoorB23
namespace Go.Proofs.YtiknnobgoamgcaaGreatDoor
open Go.RowKit Go.Lib Go.Sort
set_option linter.unusedSimpArgs false
set_option linter.unusedVariables false
/-- What Of answers. -/
def ofV : Option (List UInt8) → Value
  | some x => .tuple #[.string (bs x), .bool true]
  | none => .tuple #[.string ⟨#[]⟩, .bool false]
def OfIs (s : ByteArray) (r : Option (List UInt8)) : Prop := ∀ w : World, Tab w → Calls Tryz.prog 15 #[.string s] w fun e w' => e = .returned (ofV r) ∧ Below w.heap.size w w'
set_option maxHeartbeats 4000000 in
set_option maxRecDepth 100000 in
theorem ofIs_ok (s : ByteArray) (hs : s.size ≤ 700000) (h : ¬ 0 ≤ (scanA s).2.2) (h0L : 0 < (scanA s).1.length) (hL : (scanA s).1.length ≤ 1000000) {f : Nat} (hf : f ≤ 900000) (n : Nd) (o : Nat) (hr : filA (scanA s).1 f = .ok n o) (hN : n.c.size ≤ 1000000) (x : List UInt8) (hx : shN (scanA s).1 n = x) (hxl : x.length ≤ 10000000000) : OfIs s (some x) := by
  intro w hT
  have H1 := zH (paText_ok s w hs h h0L hL hf n o hr)
  obtain ⟨nk, nt, nc⟩ := n
  clear hr h
  generalize (scanA s).1 = L at *
  have hT0 := zH hT
  clear hT
  go_enter Tryz.func15, Tryz.ntmps15
  go_wp2_with fail
  refine (uH H1).mono ?_
  rintro e W1 ⟨a, m, c, v, rfl, hsl, hTk, hb⟩
  dsimp only at hsl ⊢
  have hbx := below_alloc W1 (.cells #[.int .i64 nk, .int .i64 nt, .slice a m c] 24 (0, 0))
  have hB := hb.trans (hbx.mono hb.size)
  have hH := zH (shText_any nk nt a m c nc v L (W1.alloc (.cells #[.int .i64 nk, .int .i64 nt, .slice a m c] 24 (0, 0))) (hsl.below hbx).any (hTk.below hbx) ((uH hT0).of hB) hN (by rw [hx]; exact hxl))
  obtain ⟨q0, q1, q2⟩ := (nblk_new W1 nk nt a m c).box
  replace hB := zH hB
  rw [hx] at hH
  clear hsl hTk hb hbx H1 hx
  go_wp2_with fail
  refine (uH hH).mono ?_
  rintro e W2 ⟨rfl, hb2⟩
  have hfin := zH (below3 (uH hB) hb2)
  clear hH hb2 q0 q1 q2
  go_wp2
  go_ret2
  exact ⟨rfl, uH hfin⟩
set_option maxHeartbeats 4000000 in
set_option maxRecDepth 100000 in
theorem ofIs_bad (s : ByteArray) (z : Int) (hz : 0 ≤ z) (H : ∀ w : World, Calls Tryz.prog 16 #[.string s] w fun e w' => e = .returned (.tuple #[.agg #[.int .i64 0, .int .i64 0, .slice none 0 0], .slice none 0 0, .int .i64 z]) ∧ Below w.heap.size w w') : OfIs s none := by
  intro w hT
  have H1 := zH (H w)
  clear hT H
  go_enter Tryz.func15, Tryz.ntmps15
  go_wp2_with fail
  refine (uH H1).mono ?_
  rintro e W1 ⟨rfl, hb⟩
  have hB := zH (hb.trans ((below_alloc W1 (.cells #[.int .i64 0, .int .i64 0, .slice none 0 0] 24 (0, 0))).mono hb.size))
  clear H1 hb
  go_wp2
  go_ret2
  exact ⟨rfl, uH hB⟩
def sameV : Option (List UInt8) → Option (List UInt8) → Bool
  | some x, some y => x == y
  | _, _ => false
set_option maxHeartbeats 4000000 in
set_option maxRecDepth 100000 in
theorem shSame_any (a b : ByteArray) (x y : Option (List UInt8)) (hx : OfIs a x) (hy : OfIs b y) (w : World) (hT : Tab w) : Calls Tryz.prog 14 #[.string a, .string b] w fun e w' => e = .returned (.bool (sameV x y)) ∧ Below w.heap.size w w' := by
  have H1 := zH (hx w hT)
  have H2 := zH hy
  have hT0 := zH hT
  clear hx hy hT
  go_enter Tryz.func14, Tryz.ntmps14
  go_wp2_with fail
  refine (uH H1).mono ?_
  rintro e W1 ⟨rfl, hb1⟩
  have hT1 := zH ((uH hT0).of hb1)
  replace hb1 := zH hb1
  clear H1
  cases x with
  | none =>
    simp only [ofV]
    go_wp2_with fail
    refine (uH H2 _ (uH hT1)).mono ?_
    rintro e W2 ⟨rfl, hb2⟩
    have hfin := zH (below3 (uH hb1) hb2)
    cases y with
    | none =>
      simp only [ofV]
      go_wp2
      go_ret
      exact ⟨rfl, uH hfin⟩
    | some y =>
      simp only [ofV]
      go_wp2
      go_ret
      exact ⟨rfl, uH hfin⟩
  | some x =>
    simp only [ofV]
    go_wp2_with fail
    refine (uH H2 _ (uH hT1)).mono ?_
    rintro e W2 ⟨rfl, hb2⟩
    have hfin := zH (below3 (uH hb1) hb2)
    cases y with
    | none =>
      simp only [ofV]
      go_wp2
      go_ret
      exact ⟨rfl, uH hfin⟩
    | some y =>
      have hq : ((bs x).toList == (bs y).toList) = (x == y) := by rw [bs_toList, bs_toList]
      simp only [ofV]
      cases hxy : (x == y) with
      | true =>
        rw [hxy] at hq
        go_wp2
        go_ret
        exact ⟨by rw [show sameV (some x) (some y) = true from hxy]; rfl, uH hfin⟩
      | false =>
        rw [hxy] at hq
        go_wp2
        go_ret
        exact ⟨by rw [show sameV (some x) (some y) = false from hxy]; rfl, uH hfin⟩
end Go.Proofs.YtiknnobgoamgcaaGreatDoor

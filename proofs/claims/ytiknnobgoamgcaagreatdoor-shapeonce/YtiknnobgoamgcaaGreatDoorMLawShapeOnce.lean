/-
  ShapeOnce's walk.
-/
import Derived.Test.YtiknnobgoamgcaaGreatDoorMShOf
import Derived.Test.YtiknnobgoamgcaaGreatDoorMShBegun
import Derived.Test.YtiknnobgoamgcaaGreatDoorMCutS
import Derived.Test.YtiknnobgoamgcaaGreatDoorB23
namespace Go.Proofs.YtiknnobgoamgcaaGreatDoor
open Go.RowKit Go.Lib Go.Sort
set_option linter.unusedSimpArgs false
set_option linter.unusedVariables false
set_option maxRecDepth 100000
set_option maxHeartbeats 8000000 in
theorem shapeOnce_shell (a0 : ByteArray) (a1 : ByteArray) (w0 : a0.size ≤ maxLen) (w1 : a1.size ≤ maxLen) (w : World) (hTab : Tab w) :
    Calls Tryz.prog 5 #[.string a0, .string a1] w fun e w' => e = .returned (.bool true) ∧ Below w.heap.size w w' := by
  have HB := zH (slBegun_any w hTab)
  have hC0 := zH (fun W => cut_any a0 500 W w0 (by decide))
  have hC1 := zH (fun W => cut_any a1 500 W w1 (by decide))
  obtain ⟨s, hs⟩ : ∃ x, cutS a0 500 = x := ⟨_, rfl⟩
  obtain ⟨t, ht⟩ : ∃ x, cutS a1 500 = x := ⟨_, rfl⟩
  have hsz : s.size ≤ 500 := by rw [← hs]; exact cutS_le _ _
  have htz : t.size ≤ 500 := by rw [← ht]; exact cutS_le _ _
  rw [hs] at hC0
  rw [ht] at hC1
  obtain ⟨hO1, hX1⟩ := text_all s (by omega)
  obtain ⟨hO2, _⟩ := text_all t (by omega)
  obtain ⟨r1, hr1⟩ : ∃ x, shA s = x := ⟨_, rfl⟩
  obtain ⟨r2, hr2⟩ : ∃ x, shA t = x := ⟨_, rfl⟩
  rw [hr1] at hO1 hX1
  rw [hr2] at hO2
  have hS12 := zH (fun W (hT : Tab W) => shSame_any s t r1 r2 hO1 hO2 W hT)
  have hS21 := zH (fun W (hT : Tab W) => shSame_any t s r2 r1 hO2 hO1 W hT)
  have hF1 := zH (fun W (hT : Tab W) => hO1 W hT)
  have hF2 := zH (fun W (hT : Tab W) => hO2 W hT)
  replace hX1 := zH hX1
  replace hTab := zH hTab
  clear hO1 hO2 hs ht hr1 hr2 w0 w1
  go_enter Tryz.func5, Tryz.ntmps5
  go_wp2_with fail
  refine (uH HB).mono ?_
  rintro e W1 ⟨rfl, hb1⟩
  replace hb1 := zH hb1
  clear HB
  go_wp2_with fail
  refine (uH hC0 _).mono ?_
  rintro e W2 ⟨rfl, rfl⟩
  go_wp2_with fail
  refine (uH hC1 _).mono ?_
  rintro e W3 ⟨rfl, rfl⟩
  clear hC0 hC1
  go_wp2_with fail
  refine (uH hF1 _ ((uH hTab).of (uH hb1))).mono ?_
  rintro e W4 ⟨rfl, hb⟩
  have hb4 := zH ((uH hb1).trans (hb.mono (uH hb1).size))
  clear hF1 hb hb1
  cases r1 with
  | none =>
    simp only [ofV]
    go_wp2_with fail
    refine (uH hF2 _ ((uH hTab).of (uH hb4))).mono ?_
    rintro e W5 ⟨rfl, hb⟩
    have hb5 := zH ((uH hb4).trans (hb.mono (uH hb4).size))
    clear hF2 hb hb4
    cases r2 with
    | none =>
      simp only [ofV]
      go_wp2_with fail
      refine (uH hX1 _).mono ?_
      rintro e W6 ⟨hb, z, hz, rfl⟩
      have hb6 := (uH hb5).trans (hb.mono (uH hb5).size)
      have hbx := below_alloc W6 (.cells #[.int .i64 0, .int .i64 0, .slice none 0 0] 24 (0, 0))
      have hb7 := zH (hb6.trans (hbx.mono hb6.size))
      have hzl : ¬ z < 0 := by omega
      clear hX1 hb hb5 hb6 hbx
      go_wp2_with fail
      refine (uH hS12 _ ((uH hTab).of (uH hb7))).mono ?_
      rintro e W8 ⟨rfl, hb⟩
      have hb8 := zH ((uH hb7).trans (hb.mono (uH hb7).size))
      clear hb hb7
      simp only [sameV]
      go_wp2_with fail
      refine (uH hS12 _ ((uH hTab).of (uH hb8))).mono ?_
      rintro e W9 ⟨rfl, hb⟩
      have hb9 := zH ((uH hb8).trans (hb.mono (uH hb8).size))
      clear hb hb8
      simp only [sameV]
      go_wp2_with fail
      refine (uH hS21 _ ((uH hTab).of (uH hb9))).mono ?_
      rintro e W10 ⟨rfl, hb⟩
      have hb10 := zH ((uH hb9).trans (hb.mono (uH hb9).size))
      clear hb hb9
      simp only [sameV]
      go_wp2
      go_ret
      exact ⟨ret_bool (by rw [decide_eq_false (Int.not_lt.2 hzl)]; rfl), uH hb10⟩
    | some y =>
      simp only [ofV]
      go_wp2_with fail
      refine (uH hX1 _).mono ?_
      rintro e W6 ⟨hb, z, hz, rfl⟩
      have hb6 := (uH hb5).trans (hb.mono (uH hb5).size)
      have hbx := below_alloc W6 (.cells #[.int .i64 0, .int .i64 0, .slice none 0 0] 24 (0, 0))
      have hb7 := zH (hb6.trans (hbx.mono hb6.size))
      have hzl : ¬ z < 0 := by omega
      clear hX1 hb hb5 hb6 hbx
      go_wp2_with fail
      refine (uH hS12 _ ((uH hTab).of (uH hb7))).mono ?_
      rintro e W8 ⟨rfl, hb⟩
      have hb8 := zH ((uH hb7).trans (hb.mono (uH hb7).size))
      clear hb hb7
      simp only [sameV]
      go_wp2_with fail
      refine (uH hS12 _ ((uH hTab).of (uH hb8))).mono ?_
      rintro e W9 ⟨rfl, hb⟩
      have hb9 := zH ((uH hb8).trans (hb.mono (uH hb8).size))
      clear hb hb8
      simp only [sameV]
      go_wp2_with fail
      refine (uH hS21 _ ((uH hTab).of (uH hb9))).mono ?_
      rintro e W10 ⟨rfl, hb⟩
      have hb10 := zH ((uH hb9).trans (hb.mono (uH hb9).size))
      clear hb hb9
      simp only [sameV]
      go_wp2
      go_ret
      exact ⟨ret_bool (by rw [decide_eq_false (Int.not_lt.2 hzl)]; rfl), uH hb10⟩
  | some x =>
    simp only [ofV]
    go_wp2_with fail
    refine (uH hF2 _ ((uH hTab).of (uH hb4))).mono ?_
    rintro e W5 ⟨rfl, hb⟩
    have hb5 := zH ((uH hb4).trans (hb.mono (uH hb4).size))
    clear hF2 hb hb4
    cases r2 with
    | none =>
      simp only [ofV]
      go_wp2_with fail
      refine (uH hX1 _).mono ?_
      rintro e W6 ⟨hb, n, L, a, m, c, v, rfl, hsl, hTk, hsh, hxl, hN⟩
      obtain ⟨nk, nt, nc⟩ := n
      dsimp only at hsl hsh hN ⊢
      have hb6 := (uH hb5).trans (hb.mono (uH hb5).size)
      have hbx := below_alloc W6 (.cells #[.int .i64 nk, .int .i64 nt, .slice a m c] 24 (0, 0))
      have hb7 := hb6.trans (hbx.mono hb6.size)
      have hH := zH (shText_any nk nt a m c nc v L (W6.alloc (.cells #[.int .i64 nk, .int .i64 nt, .slice a m c] 24 (0, 0))) (hsl.below hbx).any (hTk.below hbx) ((uH hTab).of hb7) hN (by rw [hsh]; exact hxl))
      rw [hsh] at hH
      obtain ⟨q0, q1, q2⟩ := (nblk_new W6 nk nt a m c).box
      replace hb7 := zH hb7
      clear hX1 hb hb5 hb6 hbx hsl hTk hsh hN
      go_wp2_with fail
      refine (uH hH).mono ?_
      rintro e W7 ⟨rfl, hb⟩
      have hb72 := zH ((uH hb7).trans (hb.mono (uH hb7).size))
      clear hb hb7 hH q0 q1 q2
      go_wp2_with fail
      refine (uH hS12 _ ((uH hTab).of (uH hb72))).mono ?_
      rintro e W8 ⟨rfl, hb⟩
      have hb8 := zH ((uH hb72).trans (hb.mono (uH hb72).size))
      clear hb hb72
      simp only [sameV]
      go_wp2_with fail
      refine (uH hS12 _ ((uH hTab).of (uH hb8))).mono ?_
      rintro e W9 ⟨rfl, hb⟩
      have hb9 := zH ((uH hb8).trans (hb.mono (uH hb8).size))
      clear hb hb8
      simp only [sameV]
      go_wp2_with fail
      refine (uH hS21 _ ((uH hTab).of (uH hb9))).mono ?_
      rintro e W10 ⟨rfl, hb⟩
      have hb10 := zH ((uH hb9).trans (hb.mono (uH hb9).size))
      clear hb hb9
      simp only [sameV]
      go_wp2
      go_ret
      exact ⟨rfl, uH hb10⟩
    | some y =>
      simp only [ofV]
      have hbe := bs_beq x y
      have hsy : (y == x) = (x == y) := BEq.comm
      go_wp2_with fail
      refine (uH hX1 _).mono ?_
      rintro e W6 ⟨hb, n, L, a, m, c, v, rfl, hsl, hTk, hsh, hxl, hN⟩
      obtain ⟨nk, nt, nc⟩ := n
      dsimp only at hsl hsh hN ⊢
      have hb6 := (uH hb5).trans (hb.mono (uH hb5).size)
      have hbx := below_alloc W6 (.cells #[.int .i64 nk, .int .i64 nt, .slice a m c] 24 (0, 0))
      have hb7 := hb6.trans (hbx.mono hb6.size)
      have hH := zH (shText_any nk nt a m c nc v L (W6.alloc (.cells #[.int .i64 nk, .int .i64 nt, .slice a m c] 24 (0, 0))) (hsl.below hbx).any (hTk.below hbx) ((uH hTab).of hb7) hN (by rw [hsh]; exact hxl))
      rw [hsh] at hH
      obtain ⟨q0, q1, q2⟩ := (nblk_new W6 nk nt a m c).box
      replace hb7 := zH hb7
      clear hX1 hb hb5 hb6 hbx hsl hTk hsh hN
      go_wp2_with fail
      refine (uH hH).mono ?_
      rintro e W7 ⟨rfl, hb⟩
      have hb72 := zH ((uH hb7).trans (hb.mono (uH hb7).size))
      clear hb hb7 hH q0 q1 q2
      go_wp2_with fail
      refine (uH hS12 _ ((uH hTab).of (uH hb72))).mono ?_
      rintro e W8 ⟨rfl, hb⟩
      have hb8 := zH ((uH hb72).trans (hb.mono (uH hb72).size))
      clear hb hb72
      simp only [sameV]
      go_wp2_with fail
      refine (uH hS12 _ ((uH hTab).of (uH hb8))).mono ?_
      rintro e W9 ⟨rfl, hb⟩
      have hb9 := zH ((uH hb8).trans (hb.mono (uH hb8).size))
      clear hb hb8
      simp only [sameV]
      go_wp2_with fail
      refine (uH hS21 _ ((uH hTab).of (uH hb9))).mono ?_
      rintro e W10 ⟨rfl, hb⟩
      have hb10 := zH ((uH hb9).trans (hb.mono (uH hb9).size))
      clear hb hb9
      simp only [sameV]
      go_wp2
      go_ret
      exact ⟨rfl, uH hb10⟩
end Go.Proofs.YtiknnobgoamgcaaGreatDoor

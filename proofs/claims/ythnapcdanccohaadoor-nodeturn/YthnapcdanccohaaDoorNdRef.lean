/-
  The reference's Eq; the program's alike; the law's count and deep.
-/
import Derived.Test.YthnapcdanccohaaDoorNdRow
import Derived.Test.YthnapcdanccohaaDoorMem
import Derived.Test.YthnapcdanccohaaDoorWrap
import Derived.Test.YthnapcdanccohaaDoorRet
import Derived.Deep.LoopGhost
import Derived.Lib.QuietBelow
import Derived.BigQuiet
import Derived.WalkSmall
import Derived.Deep.DeepCutAuto
namespace Go.Proofs.YthnapcdanccohaaDoor
open Go.RowKit Go.Lib Go.Sort
set_option linter.unusedSimpArgs false
set_option linter.unusedVariables false
/-- A node's value. -/
def nv (k t : Int) (a : Option Addr) (n cap : Nat) : Value := .agg #[.int .i64 k, .int .i64 t, .slice a n cap]
def nbox (k t : Int) (a : Option Addr) (n cap : Nat) : Obj := .cells #[.int .i64 k, .int .i64 t, .slice a n cap] 26 (0, 0)
theorem box0 (W : World) (k t : Int) (a : Option Addr) (n cap : Nat) : (W.alloc (.cells #[.int .i64 k, .int .i64 t, .slice a n cap] 26 (0, 0))).cell? ⟨W.heap.size, 0, none⟩ = some (.int .i64 k) := cell_alloc_at W _ 26 0 (by simp)
theorem box1 (W : World) (k t : Int) (a : Option Addr) (n cap : Nat) : (W.alloc (.cells #[.int .i64 k, .int .i64 t, .slice a n cap] 26 (0, 0))).cell? ⟨W.heap.size, 1, none⟩ = some (.int .i64 t) := cell_alloc_at W _ 26 1 (by simp)
theorem box2 (W : World) (k t : Int) (a : Option Addr) (n cap : Nat) : (W.alloc (.cells #[.int .i64 k, .int .i64 t, .slice a n cap] 26 (0, 0))).cell? ⟨W.heap.size, 2, none⟩ = some (.slice a n cap) := cell_alloc_at W _ 26 2 (by simp)
/-- Block g holds a node. -/
def BoxN (w : World) (g : Nat) (k t : Int) (a : Option Addr) (n cap : Nat) : Prop := w.cell? ⟨g, 0, none⟩ = some (.int .i64 k) ∧ w.cell? ⟨g, 1, none⟩ = some (.int .i64 t) ∧ w.cell? ⟨g, 2, none⟩ = some (.slice a n cap)
theorem BoxN.below {w w' : World} {B g : Nat} {k t : Int} {a : Option Addr} {n cap : Nat} (h : BoxN w g k t a n cap) (hb : Below B w w') (hg : g < B) : BoxN w' g k t a n cap :=
  ⟨by rw [hb.cell (by exact hg)]; exact h.1, by rw [hb.cell (by exact hg)]; exact h.2.1, by rw [hb.cell (by exact hg)]; exact h.2.2⟩
theorem boxN_new (W : World) (k t : Int) (a : Option Addr) (n cap : Nat) : BoxN (W.alloc (.cells #[.int .i64 k, .int .i64 t, .slice a n cap] 26 (0, 0))) W.heap.size k t a n cap := ⟨box0 _ _ _ _ _ _, box1 _ _ _ _ _ _, box2 _ _ _ _ _ _⟩
set_option maxHeartbeats 4000000 in
set_option maxRecDepth 100000 in
theorem alike_any (k t k' t' : Int) (a a' : Option Addr) (n cap n' cap' : Nat) (w : World) :
    Calls Tryd.prog 23 #[.agg #[.int .i64 k, .int .i64 t, .slice a n cap], .agg #[.int .i64 k', .int .i64 t', .slice a' n' cap']] w fun e w' => e = .returned (.bool (decide (k = k' ∧ t = t' ∧ n = n'))) ∧ Below w.heap.size w w' := by
  have hb : Below w.heap.size w ((w.alloc (.cells #[.int .i64 k, .int .i64 t, .slice a n cap] 26 (0, 0))).alloc (.cells #[.int .i64 k', .int .i64 t', .slice a' n' cap'] 26 (0, 0))) := ((Below.refl _ _).alloc (Nat.le_refl _) _).alloc (by simp) _
  replace hb := hide hb
  obtain ⟨R, hR⟩ : ∃ R, decide (k = k' ∧ t = t' ∧ n = n') = R := ⟨_, rfl⟩
  rw [hR]
  by_cases h1 : k = k'
  · subst h1
    have b1 : (k == k) = true := by simp
    by_cases h2 : t = t'
    · subst h2
      have b2 : (t == t) = true := by simp
      by_cases h3 : n = n'
      · subst h3
        have b3 : ((n : Int) == n) = true := by simp
        obtain rfl : R = true := by rw [← hR]; simp
        clear hR
        go_enter Tryd.func23, Tryd.ntmps23
        go_wp2
        go_ret
        exact ⟨rfl, unhide hb⟩
      · have b3 : ((n : Int) == n') = false := beq_false_of_ne (by omega)
        obtain rfl : R = false := by rw [← hR]; simp [h3]
        clear hR h3
        go_enter Tryd.func23, Tryd.ntmps23
        go_wp2
        go_ret
        exact ⟨rfl, unhide hb⟩
    · have b2 : (t == t') = false := by simpa using h2
      obtain rfl : R = false := by rw [← hR]; simp [h2]
      clear hR h2
      go_enter Tryd.func23, Tryd.ntmps23
      go_wp2
      go_ret
      exact ⟨rfl, unhide hb⟩
  · have b1 : (k == k') = false := by simpa using h1
    obtain rfl : R = false := by rw [← hR]; simp [h1]
    clear hR h1
    go_enter Tryd.func23, Tryd.ntmps23
    go_wp2
    go_ret
    exact ⟨rfl, unhide hb⟩
/-- Two forests of one length are one from the i-th on, or not. -/
theorem drop_eq {c c' : F} {i : Nat} {k1 t1 k2 t2 : Int} {x1 x2 : F} (h1 : c.drop i = .cons k1 t1 x1 (c.drop (i + 1))) (h2 : c'.drop i = .cons k2 t2 x2 (c'.drop (i + 1))) : c.drop i = c'.drop i ↔ (⟨k1, t1, x1⟩ : Nd) = ⟨k2, t2, x2⟩ ∧ c.drop (i + 1) = c'.drop (i + 1) := by
  rw [h1, h2]
  constructor
  · intro h
    injection h with e1 e2 e3 e4
    subst e1 e2 e3
    exact ⟨rfl, e4⟩
  · rintro ⟨h, e⟩
    injection h with e1 e2 e3
    subst e1 e2 e3
    rw [e]
theorem sl_regrown {w : World} {a : Option Addr} {n cap : Nat} {c : F} (h : Sl w a n cap c) (d : Nat) (os : Array Obj) : Sl (grow (redrawn w d) os) a n cap c := h.below (below_regrown w d os)
set_option maxHeartbeats 8000000 in
set_option maxRecDepth 100000 in
theorem rEqN_any : ∀ (N : Nat) (k t k' t' : Int) (a a' : Option Addr) (n cap n' cap' : Nat) (c c' : F) (w : World), c.size < N → N ≤ 1000000 → Sl w a n cap c → Sl w a' n' cap' c' →
    Calls Tryd.prog 9 #[.agg #[.int .i64 k, .int .i64 t, .slice a n cap], .agg #[.int .i64 k', .int .i64 t', .slice a' n' cap']] w fun e w' => e = .returned (.bool (decide ((⟨k, t, c⟩ : Nd) = ⟨k', t', c'⟩))) ∧ Below w.heap.size w w' := by
  intro N
  induction N with
  | zero => intro k t k' t' a a' n cap n' cap' c c' w hN; omega
  | succ N ih =>
    intro k t k' t' a a' n cap n' cap' c c' w hN hN2 h h'
    replace ih := hide ih
    obtain ⟨R, hR⟩ : ∃ R, decide ((⟨k, t, c⟩ : Nd) = ⟨k', t', c'⟩) = R := ⟨_, rfl⟩
    rw [hR]
    have hb : Below w.heap.size w ((w.alloc (.cells #[.int .i64 k, .int .i64 t, .slice a n cap] 26 (0, 0))).alloc (.cells #[.int .i64 k', .int .i64 t', .slice a' n' cap'] 26 (0, 0))) := ((Below.refl _ _).alloc (Nat.le_refl _) _).alloc (by simp) _
    have x1 : BoxN ((w.alloc (.cells #[.int .i64 k, .int .i64 t, .slice a n cap] 26 (0, 0))).alloc (.cells #[.int .i64 k', .int .i64 t', .slice a' n' cap'] 26 (0, 0))) w.heap.size k t a n cap := (boxN_new w k t a n cap).below (below_alloc _ _) (by simp)
    have x2 : BoxN ((w.alloc (.cells #[.int .i64 k, .int .i64 t, .slice a n cap] 26 (0, 0))).alloc (.cells #[.int .i64 k', .int .i64 t', .slice a' n' cap'] 26 (0, 0))) (w.heap.size + 1) k' t' a' n' cap' := by
      have := boxN_new (w.alloc (.cells #[.int .i64 k, .int .i64 t, .slice a n cap] 26 (0, 0))) k' t' a' n' cap'
      simpa using this
    have hsz : ((w.alloc (.cells #[.int .i64 k, .int .i64 t, .slice a n cap] 26 (0, 0))).alloc (.cells #[.int .i64 k', .int .i64 t', .slice a' n' cap'] 26 (0, 0))).heap.size = w.heap.size + 1 + 1 := by simp
    by_cases h1 : k = k'
    · subst h1
      have b1 : (k != k) = false := by simp
      by_cases h2 : t = t'
      · subst h2
        have b2 : (t != t) = false := by simp
        have hln : c.len = n := h.1.symm
        have hln' : c'.len = n' := h'.1.symm
        have hcap := h.2.1.1
        have hcap2 := h.2.2.1
        have hcap' := h'.2.1.1
        have hcap2' := h'.2.2.1
        unfold maxLen at hcap2 hcap2'
        by_cases h3 : n = n'
        · subst h3
          have b3 : ((n : Int) != n) = false := by simp
          have hle := c.len_le_size
          have hiff : c = c' ↔ R = true := by rw [← hR]; simp
          have hsz2 := hb.size
          have hs := hide (h.below hb)
          have hs' := hide (h'.below hb)
          replace hb := hide hb
          replace x1 := hide x1
          replace x2 := hide x2
          clear hR h h'
          go_enter Tryd.func9, Tryd.ntmps9
          go_upto_region 3 with fail
          generalize (w.alloc (.cells #[.int .i64 k, .int .i64 t, .slice a n cap] 26 (0, 0))).alloc (.cells #[.int .i64 k, .int .i64 t, .slice a' n cap'] 26 (0, 0)) = W2 at *
          obtain ⟨gb, hgb⟩ : ∃ gb, w.heap.size = gb := ⟨_, rfl⟩
          rw [hgb] at hb x1 x2 hsz hsz2 ⊢
          replace hgb := hide hgb
          obtain ⟨x10, x11, x12⟩ := unhide x1
          obtain ⟨x20, x21, x22⟩ := unhide x2
          go_wp2
          go_loopg [5] n (fun gf s5 wx => ∃ i : Nat, s5 = .int .i64 i ∧ i + gf = n ∧ (R = true ↔ c.drop i = c'.drop i) ∧ Below W2.heap.size W2 wx)
          case atStart => exact ⟨0, rfl, by omega, by rw [← hiff]; cases c <;> cases c' <;> exact Iff.rfl, Below.refl _ _⟩
          case round =>
            clear x10 x11 x12 x20 x21 x22
            obtain ⟨i, rfl, hig, hRi, hbx⟩ := hrel
            obtain ⟨x10, x11, x12⟩ := (unhide x1).below hbx (by omega)
            obtain ⟨x20, x21, x22⟩ := (unhide x2).below hbx (by omega)
            by_cases hlt : i < n
            · have hlz : (i : Int) < n := by omega
              obtain ⟨g', rfl⟩ : ∃ g', gk = g' + 1 := ⟨gk - 1, by omega⟩
              obtain ⟨g1, o1, k1, t1, a1, n1, cap1, c1, rfl, ht1, hd1, y0, y1, y2, hc1⟩ := ((unhide hs).below hbx).at hlt
              obtain ⟨g2, o2, k2, t2, a2, n2, cap2, c2, rfl, ht2, hd2, z0, z1, z2, hc2⟩ := ((unhide hs').below hbx).at hlt
              have hrec := hide (fun d os => Calls.regrown_of (unhide ih k1 t1 k2 t2 a1 a2 n1 cap1 n2 cap2 c1 c2 (grow (redrawn wr d) os) (by have := F.drop_size hd1; omega) (by omega) (sl_regrown hc1 d os) (sl_regrown hc2 d os)))
              have hst := drop_eq hd1 hd2
              obtain ⟨q, hq⟩ : ∃ q, decide ((⟨k1, t1, c1⟩ : Nd) = ⟨k2, t2, c2⟩) = q := ⟨_, rfl⟩
              rw [hq] at hrec
              have X10 := fun d os => cell_regrown x10 d os
              have X11 := fun d os => cell_regrown x11 d os
              have X12 := fun d os => cell_regrown x12 d os
              have X20 := fun d os => cell_regrown x20 d os
              have X21 := fun d os => cell_regrown x21 d os
              have X22 := fun d os => cell_regrown x22 d os
              have Y0 := fun d os => cell_regrown y0 d os
              have Y1 := fun d os => cell_regrown y1 d os
              have Y2 := fun d os => cell_regrown y2 d os
              have Z0 := fun d os => cell_regrown z0 d os
              have Z1 := fun d os => cell_regrown z1 d os
              have Z2 := fun d os => cell_regrown z2 d os
              have hbn := hide (fun d os => hbx.trans ((below_regrown wr d os).mono hbx.size))
              clear y0 y1 y2 z0 z1 z2 hd1 hd2 hc1 hc2 ht1 ht2
              cases q with
              | true =>
                have hnx : Hid (R = true ↔ c.drop (i + 1) = c'.drop (i + 1)) := hide (by rw [hRi, hst]; exact ⟨fun hh => hh.2, fun hh => ⟨of_decide_eq_true hq, hh⟩⟩)
                clear hst hRi hiff
                replace hq := hide hq
                go_upto_region 6 with fail
                refine wp_region_quiet_below (by kernel_rfl) (by kernel_rfl) ?_
                repeat (go_big_quiet_step (first | (go_at_call 9; exact unhide hrec _ _)))
                refine wpQuiet_nil ?_
                rintro W' ⟨p, rfl⟩
                go_wp2
                go_roundg g'
                case measure => omega
                case rel => exact ⟨i + 1, by go_num, by omega, unhide hnx, unhide hbn _ _⟩
              | false =>
                obtain rfl : R = false := by
                  cases R with
                  | false => rfl
                  | true => exact absurd (hst.1 (hRi.1 rfl)).1 (of_decide_eq_false hq)
                clear hst hRi hiff
                replace hq := hide hq
                go_upto_region 6 with fail
                refine wp_region_quiet_below (by kernel_rfl) (by kernel_rfl) ?_
                repeat (go_big_quiet_step (first | (go_at_call 9; exact unhide hrec _ _)))
                refine wpQuiet_nil ?_
                rintro W' ⟨p, rfl⟩
                go_wp2
                go_ret
                exact ⟨rfl, by rw [unhide hgb]; exact (unhide hb).trans ((unhide hbn _ _).mono hsz2)⟩
            · have hlz : ¬ (i : Int) < n := by omega
              obtain rfl : R = true := hRi.2 (by rw [F.drop_end (by omega), F.drop_end (by omega)])
              clear hRi hiff
              go_wp2
              go_ret
              exact ⟨rfl, by rw [unhide hgb]; exact (unhide hb).trans (hbx.mono hsz2)⟩
        · have b3 : ((n : Int) != n') = true := by simpa using show ¬ (n : Int) = n' by omega
          obtain rfl : R = false := by
            rw [← hR]
            simp only [decide_eq_false_iff_not, Nd.mk.injEq, true_and]
            rintro rfl
            omega
          replace hb := hide hb
          clear hR h3 x1 x2 h h' hln hln'
          go_enter Tryd.func9, Tryd.ntmps9
          go_wp2
          go_ret
          exact ⟨rfl, unhide hb⟩
      · have b2 : (t != t') = true := by simpa using h2
        obtain rfl : R = false := by rw [← hR]; simp [h2]
        replace hb := hide hb
        clear hR h2 x1 x2 h h'
        go_enter Tryd.func9, Tryd.ntmps9
        go_wp2
        go_ret
        exact ⟨rfl, unhide hb⟩
    · have b1 : (k != k') = true := by simpa using h1
      obtain rfl : R = false := by rw [← hR]; simp [h1]
      replace hb := hide hb
      clear hR h1 x1 x2 h h'
      go_enter Tryd.func9, Tryd.ntmps9
      go_wp2
      go_ret
      exact ⟨rfl, unhide hb⟩
end Go.Proofs.YthnapcdanccohaaDoor

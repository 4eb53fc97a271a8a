/-
  The law's count and deep.
-/
import Derived.Test.YthnapcdanccohaaDoorNdRef
import Derived.Deep.DeepCutAuto
namespace Go.Proofs.YthnapcdanccohaaDoor
open Go.RowKit Go.Lib Go.Sort
set_option linter.unusedSimpArgs false
set_option linter.unusedVariables false
set_option maxHeartbeats 4000000 in
set_option maxRecDepth 100000 in
theorem nlCount_any : ∀ (N : Nat) (k t : Int) (a : Option Addr) (n cap : Nat) (c : F) (w : World), c.size < N → N ≤ 1000000 → Sl w a n cap c →
    Calls Tryd.prog 11 #[.agg #[.int .i64 k, .int .i64 t, .slice a n cap]] w fun e w' => e = .returned (.int .i64 (c.size + 1 : Nat)) ∧ Below w.heap.size w w' := by
  intro N
  induction N with
  | zero => intro k t a n cap c w hN; omega
  | succ N ih =>
    intro k t a n cap c w hN hN2 h
    replace ih := hide ih
    have hb := below_alloc w (.cells #[.int .i64 k, .int .i64 t, .slice a n cap] 26 (0, 0))
    have x1 := boxN_new w k t a n cap
    have hsz : (w.alloc (.cells #[.int .i64 k, .int .i64 t, .slice a n cap] 26 (0, 0))).heap.size = w.heap.size + 1 := by simp
    have hln : c.len = n := h.1.symm
    have hcap := h.2.1.1
    have hcap2 := h.2.2.1
    unfold maxLen at hcap2
    have hle := c.len_le_size
    have hde := c.deep_le_size
    have hsz2 := hb.size
    have hs := hide (h.below hb)
    replace hb := hide hb
    replace x1 := hide x1
    clear h
    go_enter Tryd.func11, Tryd.ntmps11
    go_upto_region 1 with fail
    generalize w.alloc (.cells #[.int .i64 k, .int .i64 t, .slice a n cap] 26 (0, 0)) = W2 at *
    obtain ⟨gb, hgb⟩ : ∃ gb, w.heap.size = gb := ⟨_, rfl⟩
    rw [hgb] at hb x1 hsz hsz2 ⊢
    replace hgb := hide hgb
    obtain ⟨x10, x11, x12⟩ := unhide x1
    go_wp2
    go_loopg [3, 4] n (fun gf s3 s4 wx => ∃ i m : Nat, s3 = .int .i64 m ∧ s4 = .int .i64 i ∧ i + gf = n ∧ m + (c.drop i).size = c.size + 1 ∧ Below W2.heap.size W2 wx)
    case atStart => exact ⟨0, 1, rfl, rfl, by omega, by cases c <;> (simp only [F.drop]; omega), Below.refl _ _⟩
    case round =>
      clear x10 x11 x12
      obtain ⟨i, m, rfl, rfl, hig, hm, hbx⟩ := hrel
      obtain ⟨x10, x11, x12⟩ := (unhide x1).below hbx (by omega)
      by_cases hlt : i < n
      · have hlz : (i : Int) < n := by omega
        obtain ⟨g', rfl⟩ : ∃ g', gk = g' + 1 := ⟨gk - 1, by omega⟩
        obtain ⟨g1, o1, k1, t1, a1, n1, cap1, c1, rfl, ht1, hd1, y0, y1, y2, hc1⟩ := ((unhide hs).below hbx).at hlt
        have hds := F.drop_size hd1
        have hc1d := c1.deep_le_size
        have hrec := hide (unhide ih k1 t1 a1 n1 cap1 c1 wr (by omega) (by omega) hc1)
        have hm2 : m + (c1.size + 1) + (c.drop (i + 1)).size = c.size + 1 := by rw [hd1] at hm; simp only [F.size] at hm; omega
        have hbxs := hbx.size
        clear hd1 hc1 ht1
        go_wp2_with fail
        refine (unhide hrec).mono ?_
        rintro e W3 ⟨rfl, hb3⟩
        have hb3' := hide (hbx.trans (hb3.mono hbxs))
        go_wp2
        all_goals
          go_roundg g'
          case measure => omega
          case rel => exact ⟨i + 1, m + (c1.size + 1), by go_num, by go_num, by omega, hm2, unhide hb3'⟩
      · have hlz : ¬ (i : Int) < n := by omega
        rw [F.drop_end (by omega)] at hm
        go_wp2
        go_ret
        exact ⟨ret_int (by simp only [F.size] at hm; omega), by rw [unhide hgb]; exact (unhide hb).trans (hbx.mono hsz2)⟩
set_option maxHeartbeats 4000000 in
set_option maxRecDepth 100000 in
theorem nlDeep_any : ∀ (N : Nat) (k t : Int) (a : Option Addr) (n cap : Nat) (c : F) (w : World), c.size < N → N ≤ 1000000 → Sl w a n cap c →
    Calls Tryd.prog 13 #[.agg #[.int .i64 k, .int .i64 t, .slice a n cap]] w fun e w' => e = .returned (.int .i64 (c.deep + 1 : Nat)) ∧ Below w.heap.size w w' := by
  intro N
  induction N with
  | zero => intro k t a n cap c w hN; omega
  | succ N ih =>
    intro k t a n cap c w hN hN2 h
    replace ih := hide ih
    have hb := below_alloc w (.cells #[.int .i64 k, .int .i64 t, .slice a n cap] 26 (0, 0))
    have x1 := boxN_new w k t a n cap
    have hsz : (w.alloc (.cells #[.int .i64 k, .int .i64 t, .slice a n cap] 26 (0, 0))).heap.size = w.heap.size + 1 := by simp
    have hln : c.len = n := h.1.symm
    have hcap := h.2.1.1
    have hcap2 := h.2.2.1
    unfold maxLen at hcap2
    have hle := c.len_le_size
    have hde := c.deep_le_size
    have hsz2 := hb.size
    have hs := hide (h.below hb)
    replace hb := hide hb
    replace x1 := hide x1
    clear h
    go_enter Tryd.func13, Tryd.ntmps13
    go_upto_region 1 with fail
    generalize w.alloc (.cells #[.int .i64 k, .int .i64 t, .slice a n cap] 26 (0, 0)) = W2 at *
    obtain ⟨gb, hgb⟩ : ∃ gb, w.heap.size = gb := ⟨_, rfl⟩
    rw [hgb] at hb x1 hsz hsz2 ⊢
    replace hgb := hide hgb
    obtain ⟨x10, x11, x12⟩ := unhide x1
    go_wp2
    go_loopg [3, 4] n (fun gf s3 s4 wx => ∃ i m : Nat, s3 = .int .i64 m ∧ s4 = .int .i64 i ∧ i + gf = n ∧ max m (c.drop i).deep = c.deep ∧ Below W2.heap.size W2 wx)
    case atStart => exact ⟨0, 0, rfl, rfl, by omega, by cases c <;> (simp only [F.drop]; omega), Below.refl _ _⟩
    case round =>
      clear x10 x11 x12
      obtain ⟨i, m, rfl, rfl, hig, hm, hbx⟩ := hrel
      obtain ⟨x10, x11, x12⟩ := (unhide x1).below hbx (by omega)
      by_cases hlt : i < n
      · have hlz : (i : Int) < n := by omega
        obtain ⟨g', rfl⟩ : ∃ g', gk = g' + 1 := ⟨gk - 1, by omega⟩
        obtain ⟨g1, o1, k1, t1, a1, n1, cap1, c1, rfl, ht1, hd1, y0, y1, y2, hc1⟩ := ((unhide hs).below hbx).at hlt
        have hds := F.drop_size hd1
        have hc1d := c1.deep_le_size
        have hrec := hide (unhide ih k1 t1 a1 n1 cap1 c1 wr (by omega) (by omega) hc1)
        have hm2 : max (max m (c1.deep + 1)) (c.drop (i + 1)).deep = c.deep := by rw [hd1] at hm; simp only [F.deep] at hm; omega
        have hmx : (max (m : Int) ((c1.deep + 1 : Nat) : Int)) = ((max m (c1.deep + 1) : Nat) : Int) := by omega
        have hbxs := hbx.size
        clear hd1 hc1 ht1
        go_wp2_with fail
        refine (unhide hrec).mono ?_
        rintro e W3 ⟨rfl, hb3⟩
        have hb3' := hide (hbx.trans (hb3.mono hbxs))
        go_wp2
        all_goals
          go_roundg g'
          case measure => omega
          case rel => exact ⟨i + 1, max m (c1.deep + 1), by congr 1; omega, by go_num, by omega, hm2, unhide hb3'⟩
      · have hlz : ¬ (i : Int) < n := by omega
        rw [F.drop_end (by omega)] at hm
        go_wp2
        go_ret
        exact ⟨ret_int (by simp only [F.deep] at hm; omega), by rw [unhide hgb]; exact (unhide hb).trans (hbx.mono hsz2)⟩
end Go.Proofs.YthnapcdanccohaaDoor

/-
  The program's Eq.
-/
import Derived.Test.YthnapcdanccohaaDoorNdEqM
import Derived.Test.YthnapcdanccohaaDoorOpRun
import Derived.Deep.DeepCutAuto
import Derived.Deep.RegionHeld
import Derived.Deep.AppendLies
namespace Go.Proofs.YthnapcdanccohaaDoor
open Go.RowKit Go.Lib Go.Sort
set_option linter.unusedSimpArgs false
set_option linter.unusedVariables false
set_option maxHeartbeats 8000000 in
set_option maxRecDepth 100000 in
theorem ndEq_any (k t k' t' : Int) (a a' : Option Addr) (n cap n' cap' : Nat) (c c' : F) (w : World) (h : Sl w a n cap c) (h' : Sl w a' n' cap' c') (hN : c.size ≤ 1000000) :
    Calls Tryd.prog 8 #[.agg #[.int .i64 k, .int .i64 t, .slice a n cap], .agg #[.int .i64 k', .int .i64 t', .slice a' n' cap']] w fun e w' => e = .returned (.bool (decide ((⟨k, t, c⟩ : Nd) = ⟨k', t', c'⟩))) ∧ Below w.heap.size w w' := by
  obtain ⟨R, hR⟩ : ∃ R, decide ((⟨k, t, c⟩ : Nd) = ⟨k', t', c'⟩) = R := ⟨_, rfl⟩
  rw [hR]
  have hb1 := below_alloc w (.cells #[.int .i64 k, .int .i64 t, .slice a n cap] 26 (0, 0))
  have hb2 := below_alloc (w.alloc (.cells #[.int .i64 k, .int .i64 t, .slice a n cap] 26 (0, 0))) (.cells #[.int .i64 k', .int .i64 t', .slice a' n' cap'] 26 (0, 0))
  have hb := hb1.trans (hb2.mono hb1.size)
  have x1 := (nblk_new w k t a n cap).same (w' := (w.alloc (.cells #[.int .i64 k, .int .i64 t, .slice a n cap] 26 (0, 0))).alloc (.cells #[.int .i64 k', .int .i64 t', .slice a' n' cap'] 26 (0, 0))) (Below.heap_alloc _ _ _ (by simp))
  have x2 := nblk_new (w.alloc (.cells #[.int .i64 k, .int .i64 t, .slice a n cap] 26 (0, 0))) k' t' a' n' cap'
  rw [show (w.alloc (.cells #[.int .i64 k, .int .i64 t, .slice a n cap] 26 (0, 0))).heap.size = w.heap.size + 1 by simp] at x2
  have hsz : ((w.alloc (.cells #[.int .i64 k, .int .i64 t, .slice a n cap] 26 (0, 0))).alloc (.cells #[.int .i64 k', .int .i64 t', .slice a' n' cap'] 26 (0, 0))).heap.size = w.heap.size + 2 := by simp
  have hAl := hide (fun W => alike_any k t k' t' a a' n cap n' cap' W)
  have hn1 := h.1
  have hn2 := h'.1
  obtain ⟨y0, y1, y2⟩ := x1.box
  obtain ⟨z0, z1, z2⟩ := x2.box
  obtain ⟨q, hq⟩ : ∃ q, decide (k = k' ∧ t = t' ∧ n = n') = q := ⟨_, rfl⟩
  rw [hq] at hAl
  have hqf : Hid (q = false → R = false) := hide (fun hf => by
    subst hf
    rw [← hR]
    simp only [decide_eq_false_iff_not, Nd.mk.injEq]
    rintro ⟨e1, e2, e3⟩
    exact of_decide_eq_false hq ⟨e1, e2, by rw [hn1, hn2, e3]⟩)
  have hqt : Hid (q = true → (R = true ↔ c = c')) := hide (fun hf => by
    subst hf
    obtain ⟨e1, e2, e3⟩ := of_decide_eq_true hq
    rw [← hR]
    simp [e1, e2])
  have hqn : Hid (q = true → n = n') := hide (fun hf => by subst hf; exact (of_decide_eq_true hq).2.2)
  replace h := hide h
  replace h' := hide h'
  replace hb := hide hb
  replace x1 := hide x1
  replace x2 := hide x2
  clear hb1 hb2 hR hq hn1 hn2
  go_enter Tryd.func8, Tryd.ntmps8
  go_wp2_with fail
  refine (unhide hAl _).mono ?_
  rintro e W2 ⟨rfl, hbA⟩
  clear y0 y1 y2 z0 z1 z2
  generalize (w.alloc (.cells #[.int .i64 k, .int .i64 t, .slice a n cap] 26 (0, 0))).alloc (.cells #[.int .i64 k', .int .i64 t', .slice a' n' cap'] 26 (0, 0)) = W1 at *
  obtain ⟨gb, hgb⟩ : ∃ gb, w.heap.size = gb := ⟨_, rfl⟩
  rw [hgb] at hsz x1 x2 hb ⊢
  rw [hsz] at hbA
  have hs2 := hbA.size
  rw [hsz] at hs2
  have hb2 : RowKit.Below gb w W2 := (unhide hb).trans (hbA.mono (by omega))
  have x12 := (unhide x1).same (hbA.block gb (by omega))
  have x22 := (unhide x2).same (hbA.block (gb + 1) (by omega))
  obtain ⟨y0, y1, y2⟩ := x12.box
  obtain ⟨z0, z1, z2⟩ := x22.box
  cases q with
  | false =>
    obtain rfl := unhide hqf rfl
    go_wp2
    go_ret
    exact ⟨rfl, by rw [hgb]; exact hb2⟩
  | true =>
    obtain rfl : n = n' := unhide hqn rfl
    have hRc := unhide hqt rfl
    have hlen : c.len = c'.len := by rw [← (unhide h).1, ← (unhide h').1]
    have hrow := rowQ_new W2 (.slice a n cap) (.slice a' n cap')
    have hb3 := hb2.alloc (by omega) (.cells #[.slice a n cap, .slice a' n cap'] 43 (0, 0))
    have hst : StkQ w [(.slice a n cap, .slice a' n cap')] [(c, c')] := ⟨⟨_, _, _, _, _, rfl, unhide h, unhide h'⟩, trivial⟩
    have hRa : R = true ↔ AllEq [(c, c')] := by rw [hRc]; simp [AllEq]
    replace hrow := hide hrow
    replace hb3 := hide hb3
    replace hst := hide hst
    clear hRc hAl hqf hqt hqn hbA x12 x22
    have hgs : gb ≤ W2.heap.size := by omega
    go_upto_region 4 with fail
    generalize W2.alloc (.cells #[.slice a n cap, .slice a' n cap'] 43 (0, 0)) = W3 at *
    generalize W2.heap.size = gp at *
    clear y0 y1 y2 z0 z1 z2
    go_wp2
    go_loopg [5] (c.size + 1) (fun gf s5 wx => ∃ (ts : List (Value × Value)) (fs : List (F × F)) (gp cp m : Nat), s5 = .slice (some ⟨gp, 0, none⟩) m cp ∧ m = fs.length ∧ nu2 fs ≤ gf ∧ gf ≤ 1000001 ∧ RowQ wx gp cp ts.reverse ∧ gb ≤ gp ∧ StkQ w ts fs ∧ (∀ p ∈ fs, p.1.len = p.2.len) ∧ (R = true ↔ AllEq fs) ∧ Below gb w wx)
    case atStart => exact ⟨[(.slice a n cap, .slice a' n cap')], [(c, c')], gp, 1, 1, rfl, rfl, by simp [nu2], by omega, unhide hrow, hgs, unhide hst, fun p hp => by rw [List.mem_singleton] at hp; subst hp; exact hlen, hRa, unhide hb3⟩
    case round =>
      clear hrow hb3 hst hRa
      obtain ⟨ts, fs, gp, cp, m, rfl, hm, hnu, hgf, hrow, hgpB, hst, hle, hRa, hbw⟩ := hrel
      cases fs with
      | nil =>
        obtain rfl : m = 0 := hm
        obtain rfl : R = true := hRa.2 (fun p hp => by cases hp)
        clear hRa
        go_wp2
        go_ret
        exact ⟨rfl, hbw⟩
      | cons f rest =>
        cases ts with
        | nil => exact hst.elim
        | cons t0 ts =>
          obtain ⟨f1, f2⟩ := f
          obtain ⟨⟨a1, n1, cap1, a2, cap2, ht0, hf1, hf2⟩, hst'⟩ := hst
          subst ht0
          have hlt := hst'.len
          obtain ⟨m', hm'⟩ : ∃ m', rest.length = m' := ⟨_, rfl⟩
          rw [hm'] at hlt
          obtain rfl : m = m' + 1 := by rw [hm, List.length_cons, hm']
          clear hm
          have hroom := hrow.room
          rw [List.length_reverse, List.length_cons, hlt] at hroom
          unfold maxLen at hroom
          have hml := nu2_len ((f1, f2) :: rest)
          rw [List.length_cons, hm'] at hml
          obtain ⟨g', rfl⟩ : ∃ g', gk = g' + 1 := ⟨gk - 1, by simp only [nu2] at hnu; omega⟩
          have hnu' : f1.size + nu2 rest ≤ g' := by simp only [nu2] at hnu; omega
          have hlastz : IntKind.i64.wrap (((m' + 1 : Nat) : Int) - 1) = (m' : Int) := by rw [wrapI _ (by omega) (by omega)]; omega
          have hm1' : (0 : Int) < (m' : Int) + 1 := by omega
          obtain ⟨q0, q1⟩ := hrow.last hlt
          have htake := hide hrow.pop
          have hn1 : f1.len = n1 := hf1.1.symm
          have hn1' : f2.len = n1 := hf2.1.symm
          have hcap1 := hf1.2.1.1
          have hcap1' := hf1.2.2.1
          have hcap2 := hf2.2.1.1
          have hcap2' := hf2.2.2.1
          unfold maxLen at hcap1' hcap2'
          have hRa' : R = true ↔ (AllEq rest ∧ f1 = f2) := by rw [hRa, allEq_cons]; exact And.comm
          have hgpl := hrow.lt
          have hbwB := hbw.alloc (Nat.le_trans hgpB (Nat.le_of_lt hgpl)) (.cells #[.slice a1 n1 cap1, .slice a2 n1 cap2] 43 (0, 0))
          have hpx : (wr.alloc (.cells #[.slice a1 n1 cap1, .slice a2 n1 cap2] 43 (0, 0))).heap[wr.heap.size]? = some (.cells #[.slice a1 n1 cap1, .slice a2 n1 cap2] 43 (0, 0)) := heap_alloc_new wr _
          have htk2 := hide ((unhide htake).same (w' := wr.alloc (.cells #[.slice a1 n1 cap1, .slice a2 n1 cap2] 43 (0, 0))) (Below.heap_alloc _ _ _ hgpl))
          have hpc0 : (wr.alloc (.cells #[.slice a1 n1 cap1, .slice a2 n1 cap2] 43 (0, 0))).cell? ⟨wr.heap.size, 0, none⟩ = some (.slice a1 n1 cap1) := by rw [cell_of_row _ _ 0 _ _ _ hpx]; rfl
          have hle1 := hide (fun p hp => hle p (List.mem_cons_of_mem _ hp))
          replace hst' := hide hst'
          replace hf1 := hide hf1
          replace hf2 := hide hf2
          replace hbwB := hide hbwB
          replace hpx := hide hpx
          replace hbw := hide hbw
          clear hrow hRa hle hnu
          go_upto_region 8 with fail
          obtain ⟨gx, hgx⟩ : ∃ gx, wr.heap.size = gx := ⟨_, rfl⟩
          rw [hgx] at hpx hpc0 hgpl ⊢
          generalize wr.alloc (.cells #[.slice a1 n1 cap1, .slice a2 n1 cap2] 43 (0, 0)) = Wp at *
          have hgxB : gb ≤ gx := by omega
          have hgne : gp ≠ gx := by omega
          replace hgx := hide hgx
          clear q0 q1 htake
          go_wp2
          go_loopg [5, 8, 37] n1 (fun gf2 s5 s8 s37 wy => ∃ (i : Nat) (ts : List (Value × Value)) (fs : List (F × F)) (gp cp m : Nat), s37 = .int .i64 i ∧ i + gf2 = n1 ∧ s5 = .slice (some ⟨gp, 0, none⟩) m cp ∧ m = fs.length ∧ nu2 fs + (f1.drop i).size ≤ g' ∧ RowQ wy gp cp ts.reverse ∧ gb ≤ gp ∧ gp ≠ gx ∧ StkQ w ts fs ∧ (∀ p ∈ fs, p.1.len = p.2.len) ∧ (R = true ↔ (AllEq fs ∧ f1.drop i = f2.drop i)) ∧ wy.heap[gx]? = some (.cells #[.slice a1 n1 cap1, .slice a2 n1 cap2] 43 (0, 0)) ∧ Below gb w wy)
          case atStart => exact ⟨0, ts, rest, gp, cp, m', rfl, by omega, rfl, hm'.symm, by rw [show f1.drop 0 = f1 by cases f1 <;> rfl]; omega, unhide htk2, hgpB, hgne, unhide hst', unhide hle1, by rw [hRa', show f1.drop 0 = f1 by cases f1 <;> rfl, show f2.drop 0 = f2 by cases f2 <;> rfl], unhide hpx, unhide hbwB⟩
          case round =>
            clear htk2 hgpB hgne hst' hle1 hRa' hpx hbwB hpc0 hlastz hlt hm' hml hroom hbw hgpl
            obtain ⟨i, ts, fs, gp, cp, m, rfl, hig, rfl, hm, hnu, hrow, hgpB, hgne, hst, hle, hRa, hpx, hbw⟩ := hrel
            have hp0 : wr.cell? ⟨gx, 0, none⟩ = some (.slice a1 n1 cap1) := by rw [cell_of_row _ _ 0 _ _ _ hpx]; rfl
            have hp1 : wr.cell? ⟨gx, 1, none⟩ = some (.slice a2 n1 cap2) := by rw [cell_of_row _ _ 1 _ _ _ hpx]; rfl
            by_cases hlt : i < n1
            · have hlz : (i : Int) < n1 := by omega
              obtain ⟨q', rfl⟩ : ∃ q', gk = q' + 1 := ⟨gk - 1, by omega⟩
              obtain ⟨g1, o1, k1, t1, b1, l1, d1, c1, rfl, ht1, hd1, u0, u1, u2, hc1⟩ := (unhide hf1).at hlt
              obtain ⟨g2, o2, k2, t2, b2, l2, d2, c2, rfl, ht2, hd2, v0, v1, v2, hc2⟩ := (unhide hf2).at hlt
              have hl1 := ht1.lt
              have hl2 := ht2.lt
              rw [hgb] at hl1 hl2
              replace u0 := (hbw.cell (p := ⟨g1, o1 + i * 3, none⟩) hl1).trans u0
              replace u1 := (hbw.cell (p := ⟨g1, o1 + i * 3 + 1, none⟩) hl1).trans u1
              replace u2 := (hbw.cell (p := ⟨g1, o1 + i * 3 + 2, none⟩) hl1).trans u2
              replace v0 := (hbw.cell (p := ⟨g2, o2 + i * 3, none⟩) hl2).trans v0
              replace v1 := (hbw.cell (p := ⟨g2, o2 + i * 3 + 1, none⟩) hl2).trans v1
              replace v2 := (hbw.cell (p := ⟨g2, o2 + i * 3 + 2, none⟩) hl2).trans v2
              go_upto_region 11 with fail
              go_cut [9, 10] (fun s9 s10 wz => ∃ ga gc, s9 = .pointer (some ⟨ga, 0, none⟩) ∧ s10 = .pointer (some ⟨gc, 0, none⟩) ∧ NBlk wz ga k1 t1 b1 l1 d1 ∧ NBlk wz gc k2 t2 b2 l2 d2 ∧ Below wr.heap.size wr wz)
              case first =>
                have hpl : gx < wr.heap.size := (Array.getElem?_eq_some_iff.1 hpx).1
                have hg1 : g1 < wr.heap.size := World.block_lt_of_cell? _ _ u0
                have hg2 : g2 < wr.heap.size := World.block_lt_of_cell? _ _ v0
                have hS : RowKit.Below wr.heap.size wr wr.drew := (Below.refl _ _).drew
                refine wp_region_held_drew (S := fun w' => RowKit.Below wr.heap.size wr w') (by kernel_rfl) hS (fun _ => ?_)
                generalize World.drew wr = WD at hS ⊢
                refine wpAnyH_take (i := 0) (v := .pointer (some ⟨gx, 0, none⟩)) rfl (by kernel_rfl) (by kernel_rfl) (by kernel_rfl) (fun _ _ _ h => h) (Or.inl ⟨by kernel_rfl, ?_⟩) hS ?_
                · intro w hSw
                  go_simp
                try simp only [List.getElem_toArray, List.getElem_cons_succ, List.getElem_cons_zero, Act.put, List.setIfInBounds_toArray, List.set_cons_zero, List.set_cons_succ]
                refine wpAnyH_take (i := 1) (v := .slice (some ⟨g1, o1, none⟩) n1 cap1) rfl (by kernel_rfl) (by kernel_rfl) (by kernel_rfl) (fun _ _ _ h => h) (Or.inl ⟨by kernel_rfl, ?_⟩) hS ?_
                · intro w hSw
                  have e0 := (hSw.cell (p := ⟨gx, 0, none⟩) hpl).trans hp0
                  clear hp0 hp1 u0 u1 u2 v0 v1 v2
                  go_simp
                try simp only [List.getElem_toArray, List.getElem_cons_succ, List.getElem_cons_zero, Act.put, List.setIfInBounds_toArray, List.set_cons_zero, List.set_cons_succ]
                refine wpAnyH_take (i := 2) (v := .int .i64 i) rfl (by kernel_rfl) (by kernel_rfl) (by kernel_rfl) (fun _ _ _ h => h) (Or.inl ⟨by kernel_rfl, ?_⟩) hS ?_
                · intro w hSw
                  go_simp
                try simp only [List.getElem_toArray, List.getElem_cons_succ, List.getElem_cons_zero, Act.put, List.setIfInBounds_toArray, List.set_cons_zero, List.set_cons_succ]
                refine wpAnyH_take (i := 3) (v := .pointer (some ⟨g1, o1 + i * 3, none⟩)) rfl (by kernel_rfl) (by kernel_rfl) (by kernel_rfl) (fun _ _ _ h => h) (Or.inl ⟨by kernel_rfl, ?_⟩) hS ?_
                · intro w hSw
                  go_simp
                try simp only [List.getElem_toArray, List.getElem_cons_succ, List.getElem_cons_zero, Act.put, List.setIfInBounds_toArray, List.set_cons_zero, List.set_cons_succ]
                refine wpAnyH_take (i := 4) (v := .agg #[.int .i64 k1, .int .i64 t1, .slice b1 l1 d1]) rfl (by kernel_rfl) (by kernel_rfl) (by kernel_rfl) (fun _ _ _ h => h) (Or.inl ⟨by kernel_rfl, ?_⟩) hS ?_
                · intro w hSw
                  have e0 := (hSw.cell (p := ⟨g1, o1 + i * 3, none⟩) hg1).trans u0
                  have e1 := (hSw.cell (p := ⟨g1, o1 + i * 3 + 1, none⟩) hg1).trans u1
                  have e2 := (hSw.cell (p := ⟨g1, o1 + i * 3 + 2, none⟩) hg1).trans u2
                  clear hp0 hp1 u0 u1 u2 v0 v1 v2
                  go_simp
                try simp only [List.getElem_toArray, List.getElem_cons_succ, List.getElem_cons_zero, Act.put, List.setIfInBounds_toArray, List.set_cons_zero, List.set_cons_succ]
                refine wpAnyH_take (i := 5) (v := .pointer (some ⟨gx, 1, none⟩)) rfl (by kernel_rfl) (by kernel_rfl) (by kernel_rfl) (fun _ _ _ h => h) (Or.inl ⟨by kernel_rfl, ?_⟩) hS ?_
                · intro w hSw
                  go_simp
                try simp only [List.getElem_toArray, List.getElem_cons_succ, List.getElem_cons_zero, Act.put, List.setIfInBounds_toArray, List.set_cons_zero, List.set_cons_succ]
                refine wpAnyH_take (i := 6) (v := .slice (some ⟨g2, o2, none⟩) n1 cap2) rfl (by kernel_rfl) (by kernel_rfl) (by kernel_rfl) (fun _ _ _ h => h) (Or.inl ⟨by kernel_rfl, ?_⟩) hS ?_
                · intro w hSw
                  have e0 := (hSw.cell (p := ⟨gx, 1, none⟩) hpl).trans hp1
                  clear hp0 hp1 u0 u1 u2 v0 v1 v2
                  go_simp
                try simp only [List.getElem_toArray, List.getElem_cons_succ, List.getElem_cons_zero, Act.put, List.setIfInBounds_toArray, List.set_cons_zero, List.set_cons_succ]
                refine wpAnyH_take (i := 7) (v := .int .i64 i) rfl (by kernel_rfl) (by kernel_rfl) (by kernel_rfl) (fun _ _ _ h => h) (Or.inl ⟨by kernel_rfl, ?_⟩) hS ?_
                · intro w hSw
                  go_simp
                try simp only [List.getElem_toArray, List.getElem_cons_succ, List.getElem_cons_zero, Act.put, List.setIfInBounds_toArray, List.set_cons_zero, List.set_cons_succ]
                refine wpAnyH_take (i := 8) (v := .pointer (some ⟨g2, o2 + i * 3, none⟩)) rfl (by kernel_rfl) (by kernel_rfl) (by kernel_rfl) (fun _ _ _ h => h) (Or.inl ⟨by kernel_rfl, ?_⟩) hS ?_
                · intro w hSw
                  go_simp
                try simp only [List.getElem_toArray, List.getElem_cons_succ, List.getElem_cons_zero, Act.put, List.setIfInBounds_toArray, List.set_cons_zero, List.set_cons_succ]
                refine wpAnyH_take (i := 9) (v := .agg #[.int .i64 k2, .int .i64 t2, .slice b2 l2 d2]) rfl (by kernel_rfl) (by kernel_rfl) (by kernel_rfl) (fun _ _ _ h => h) (Or.inl ⟨by kernel_rfl, ?_⟩) hS ?_
                · intro w hSw
                  have e0 := (hSw.cell (p := ⟨g2, o2 + i * 3, none⟩) hg2).trans v0
                  have e1 := (hSw.cell (p := ⟨g2, o2 + i * 3 + 1, none⟩) hg2).trans v1
                  have e2 := (hSw.cell (p := ⟨g2, o2 + i * 3 + 2, none⟩) hg2).trans v2
                  clear hp0 hp1 u0 u1 u2 v0 v1 v2
                  go_simp
                try simp only [List.getElem_toArray, List.getElem_cons_succ, List.getElem_cons_zero, Act.put, List.setIfInBounds_toArray, List.set_cons_zero, List.set_cons_succ]
                refine wpAnyH_ready (rs := [10, 11]) (by kernel_rfl) (by decide) ?_
                refine AllReadyH.cons rfl (fun K' hK => ?_) (AllReadyH.cons rfl (fun K' hK => ?_) AllReadyH.nil)
                · rw [if_pos (by kernel_rfl)]
                  refine oper_of_run (run_alloc_node WD _ _ _ _ _ _) ?_
                  have hS' : RowKit.Below wr.heap.size wr (WD.alloc (.cells #[.int .i64 0, .int .i64 0, .slice none 0 0] 26 (0, 0))) := hS.alloc hS.size _
                  have hna := nblk_new WD 0 0 none 0 0
                  have hnaB : wr.heap.size ≤ WD.heap.size := hS.size
                  refine hK.out _ _ hS' (fun _ => ?_)
                  clear hK K' hS
                  have hS := hS'
                  clear hS'
                  generalize WD.heap.size = ga at *
                  generalize WD.alloc (.cells #[.int .i64 0, .int .i64 0, .slice none 0 0] 26 (0, 0)) = WD' at *
                  try simp only [List.getElem_toArray, List.getElem_cons_succ, List.getElem_cons_zero, Act.put, List.setIfInBounds_toArray, List.set_cons_zero, List.set_cons_succ]
                  refine wpAnyH_ready (rs := [11]) (by kernel_rfl) (by decide) ?_
                  refine AllReadyH.cons rfl (fun K' hK => ?_) AllReadyH.nil
                  rw [if_pos (by kernel_rfl)]
                  refine oper_of_run (run_alloc_node WD' _ _ _ _ _ _) ?_
                  have hS' : RowKit.Below wr.heap.size wr (WD'.alloc (.cells #[.int .i64 0, .int .i64 0, .slice none 0 0] 26 (0, 0))) := hS.alloc hS.size _
                  have hnc := nblk_new WD' 0 0 none 0 0
                  have hncB : wr.heap.size ≤ WD'.heap.size := hS.size
                  have hna' := hna.same (w' := WD'.alloc (.cells #[.int .i64 0, .int .i64 0, .slice none 0 0] 26 (0, 0))) (Below.heap_alloc _ _ _ hna.lt)
                  have hne : ga ≠ WD'.heap.size := Nat.ne_of_lt hna.lt
                  refine hK.out _ _ hS' (fun _ => ?_)
                  clear hK K' hS
                  have hS := hS'
                  clear hS'
                  generalize WD'.heap.size = gc at *
                  generalize WD'.alloc (.cells #[.int .i64 0, .int .i64 0, .slice none 0 0] 26 (0, 0)) = WD'' at *
                  clear hna
                  have hna := hna'
                  clear hna'
                  try simp only [List.getElem_toArray, List.getElem_cons_succ, List.getElem_cons_zero, Act.put, List.setIfInBounds_toArray, List.set_cons_zero, List.set_cons_succ]
                  refine wpAnyH_ready (rs := [12]) (by kernel_rfl) (by decide) ?_
                  refine AllReadyH.cons rfl (fun K' hK => ?_) AllReadyH.nil
                  rw [if_pos (by kernel_rfl)]
                  refine oper_skip (run_store_node WD'' _ _ _ _ _ _ _ _ ga 0 0 k1 t1 none b1 0 0 l1 d1 hna rfl rfl) ?_
                  have hS' : RowKit.Below wr.heap.size wr (((WD''.setCell ⟨ga, 0, none⟩ (.int .i64 k1)).setCell ⟨ga, 1, none⟩ (.int .i64 t1)).setCell ⟨ga, 2, none⟩ (.slice b1 l1 d1)) := below_set3 hS hnaB
                  have hna' : NBlk (((WD''.setCell ⟨ga, 0, none⟩ (.int .i64 k1)).setCell ⟨ga, 1, none⟩ (.int .i64 t1)).setCell ⟨ga, 2, none⟩ (.slice b1 l1 d1)) ga k1 t1 b1 l1 d1 := hna.set3
                  have hnc' := hnc.other3 (x := ga) (k' := k1) (t' := t1) (a' := b1) (n' := l1) (cap' := d1) (fun e => hne e.symm)
                  refine hK.out _ _ hS' (fun _ => ?_)
                  clear hK K' hS hna hnc
                  have hS := hS'
                  have hna := hna'
                  have hnc := hnc'
                  clear hS' hna' hnc'
                  generalize (((WD''.setCell ⟨ga, 0, none⟩ (.int .i64 k1)).setCell ⟨ga, 1, none⟩ (.int .i64 t1)).setCell ⟨ga, 2, none⟩ (.slice b1 l1 d1)) = WD''' at *
                  try simp only [List.getElem_toArray, List.getElem_cons_succ, List.getElem_cons_zero, Act.put, List.setIfInBounds_toArray, List.set_cons_zero, List.set_cons_succ]
                  refine wpAnyH_ready (rs := [13]) (by kernel_rfl) (by decide) ?_
                  refine AllReadyH.cons rfl (fun K' hK => ?_) AllReadyH.nil
                  rw [if_pos (by kernel_rfl)]
                  refine oper_skip (run_store_node WD''' _ _ _ _ _ _ _ _ gc 0 0 k2 t2 none b2 0 0 l2 d2 hnc rfl rfl) ?_
                  have hS' : RowKit.Below wr.heap.size wr (((WD'''.setCell ⟨gc, 0, none⟩ (.int .i64 k2)).setCell ⟨gc, 1, none⟩ (.int .i64 t2)).setCell ⟨gc, 2, none⟩ (.slice b2 l2 d2)) := below_set3 hS hncB
                  have hnc' : NBlk (((WD'''.setCell ⟨gc, 0, none⟩ (.int .i64 k2)).setCell ⟨gc, 1, none⟩ (.int .i64 t2)).setCell ⟨gc, 2, none⟩ (.slice b2 l2 d2)) gc k2 t2 b2 l2 d2 := hnc.set3
                  have hna' := hna.other3 (x := gc) (k' := k2) (t' := t2) (a' := b2) (n' := l2) (cap' := d2) hne
                  refine hK.out _ _ hS' (fun _ => ?_)
                  clear hK K' hS hnc hna
                  have hS := hS'
                  have hnc := hnc'
                  have hna := hna'
                  clear hS' hnc' hna'
                  generalize (((WD'''.setCell ⟨gc, 0, none⟩ (.int .i64 k2)).setCell ⟨gc, 1, none⟩ (.int .i64 t2)).setCell ⟨gc, 2, none⟩ (.slice b2 l2 d2)) = WD'''' at *
                  try simp only [List.getElem_toArray, List.getElem_cons_succ, List.getElem_cons_zero, Act.put, List.setIfInBounds_toArray, List.set_cons_zero, List.set_cons_succ]
                  refine wpAnyH_done (by kernel_rfl) ?_ _
                  go_wp2
                  go_meet
                  case rel => exact ⟨ga, gc, rfl, rfl, hna, hnc, hS⟩
                · rw [if_pos (by kernel_rfl)]
                  refine oper_of_run (run_alloc_node WD _ _ _ _ _ _) ?_
                  have hS' : RowKit.Below wr.heap.size wr (WD.alloc (.cells #[.int .i64 0, .int .i64 0, .slice none 0 0] 26 (0, 0))) := hS.alloc hS.size _
                  have hnc := nblk_new WD 0 0 none 0 0
                  have hncB : wr.heap.size ≤ WD.heap.size := hS.size
                  refine hK.out _ _ hS' (fun _ => ?_)
                  clear hK K' hS
                  have hS := hS'
                  clear hS'
                  generalize WD.heap.size = gc at *
                  generalize WD.alloc (.cells #[.int .i64 0, .int .i64 0, .slice none 0 0] 26 (0, 0)) = WD' at *
                  try simp only [List.getElem_toArray, List.getElem_cons_succ, List.getElem_cons_zero, Act.put, List.setIfInBounds_toArray, List.set_cons_zero, List.set_cons_succ]
                  refine wpAnyH_ready (rs := [10]) (by kernel_rfl) (by decide) ?_
                  refine AllReadyH.cons rfl (fun K' hK => ?_) AllReadyH.nil
                  rw [if_pos (by kernel_rfl)]
                  refine oper_of_run (run_alloc_node WD' _ _ _ _ _ _) ?_
                  have hS' : RowKit.Below wr.heap.size wr (WD'.alloc (.cells #[.int .i64 0, .int .i64 0, .slice none 0 0] 26 (0, 0))) := hS.alloc hS.size _
                  have hna := nblk_new WD' 0 0 none 0 0
                  have hnaB : wr.heap.size ≤ WD'.heap.size := hS.size
                  have hnc' := hnc.same (w' := WD'.alloc (.cells #[.int .i64 0, .int .i64 0, .slice none 0 0] 26 (0, 0))) (Below.heap_alloc _ _ _ hnc.lt)
                  have hne : gc ≠ WD'.heap.size := Nat.ne_of_lt hnc.lt
                  refine hK.out _ _ hS' (fun _ => ?_)
                  clear hK K' hS
                  have hS := hS'
                  clear hS'
                  generalize WD'.heap.size = ga at *
                  generalize WD'.alloc (.cells #[.int .i64 0, .int .i64 0, .slice none 0 0] 26 (0, 0)) = WD'' at *
                  clear hnc
                  have hnc := hnc'
                  clear hnc'
                  try simp only [List.getElem_toArray, List.getElem_cons_succ, List.getElem_cons_zero, Act.put, List.setIfInBounds_toArray, List.set_cons_zero, List.set_cons_succ]
                  refine wpAnyH_ready (rs := [12]) (by kernel_rfl) (by decide) ?_
                  refine AllReadyH.cons rfl (fun K' hK => ?_) AllReadyH.nil
                  rw [if_pos (by kernel_rfl)]
                  refine oper_skip (run_store_node WD'' _ _ _ _ _ _ _ _ ga 0 0 k1 t1 none b1 0 0 l1 d1 hna rfl rfl) ?_
                  have hS' : RowKit.Below wr.heap.size wr (((WD''.setCell ⟨ga, 0, none⟩ (.int .i64 k1)).setCell ⟨ga, 1, none⟩ (.int .i64 t1)).setCell ⟨ga, 2, none⟩ (.slice b1 l1 d1)) := below_set3 hS hnaB
                  have hna' : NBlk (((WD''.setCell ⟨ga, 0, none⟩ (.int .i64 k1)).setCell ⟨ga, 1, none⟩ (.int .i64 t1)).setCell ⟨ga, 2, none⟩ (.slice b1 l1 d1)) ga k1 t1 b1 l1 d1 := hna.set3
                  have hnc' := hnc.other3 (x := ga) (k' := k1) (t' := t1) (a' := b1) (n' := l1) (cap' := d1) hne
                  refine hK.out _ _ hS' (fun _ => ?_)
                  clear hK K' hS hna hnc
                  have hS := hS'
                  have hna := hna'
                  have hnc := hnc'
                  clear hS' hna' hnc'
                  generalize (((WD''.setCell ⟨ga, 0, none⟩ (.int .i64 k1)).setCell ⟨ga, 1, none⟩ (.int .i64 t1)).setCell ⟨ga, 2, none⟩ (.slice b1 l1 d1)) = WD''' at *
                  try simp only [List.getElem_toArray, List.getElem_cons_succ, List.getElem_cons_zero, Act.put, List.setIfInBounds_toArray, List.set_cons_zero, List.set_cons_succ]
                  refine wpAnyH_ready (rs := [13]) (by kernel_rfl) (by decide) ?_
                  refine AllReadyH.cons rfl (fun K' hK => ?_) AllReadyH.nil
                  rw [if_pos (by kernel_rfl)]
                  refine oper_skip (run_store_node WD''' _ _ _ _ _ _ _ _ gc 0 0 k2 t2 none b2 0 0 l2 d2 hnc rfl rfl) ?_
                  have hS' : RowKit.Below wr.heap.size wr (((WD'''.setCell ⟨gc, 0, none⟩ (.int .i64 k2)).setCell ⟨gc, 1, none⟩ (.int .i64 t2)).setCell ⟨gc, 2, none⟩ (.slice b2 l2 d2)) := below_set3 hS hncB
                  have hnc' : NBlk (((WD'''.setCell ⟨gc, 0, none⟩ (.int .i64 k2)).setCell ⟨gc, 1, none⟩ (.int .i64 t2)).setCell ⟨gc, 2, none⟩ (.slice b2 l2 d2)) gc k2 t2 b2 l2 d2 := hnc.set3
                  have hna' := hna.other3 (x := gc) (k' := k2) (t' := t2) (a' := b2) (n' := l2) (cap' := d2) (fun e => hne e.symm)
                  refine hK.out _ _ hS' (fun _ => ?_)
                  clear hK K' hS hnc hna
                  have hS := hS'
                  have hnc := hnc'
                  have hna := hna'
                  clear hS' hnc' hna'
                  generalize (((WD'''.setCell ⟨gc, 0, none⟩ (.int .i64 k2)).setCell ⟨gc, 1, none⟩ (.int .i64 t2)).setCell ⟨gc, 2, none⟩ (.slice b2 l2 d2)) = WD'''' at *
                  try simp only [List.getElem_toArray, List.getElem_cons_succ, List.getElem_cons_zero, Act.put, List.setIfInBounds_toArray, List.set_cons_zero, List.set_cons_succ]
                  refine wpAnyH_done (by kernel_rfl) ?_ _
                  go_wp2
                  go_meet
                  case rel => exact ⟨ga, gc, rfl, rfl, hna, hnc, hS⟩
              case rest =>
                obtain ⟨ga, gc, rfl, rfl, hna, hnc, hbz⟩ := hcut
                have hAl2 := hide (alike_any k1 t1 k2 t2 b1 b2 l1 d1 l2 d2 wc)
                obtain ⟨q2, hq2⟩ : ∃ q, decide (k1 = k2 ∧ t1 = t2 ∧ l1 = l2) = q := ⟨_, rfl⟩
                rw [hq2] at hAl2
                have hst2 := drop_eq hd1 hd2
                have hl1c : c1.len = l1 := hc1.1.symm
                have hl2c : c2.len = l2 := hc2.1.symm
                have hd1d := hc1.2.1.1
                have hd1m := hc1.2.2.1
                unfold maxLen at hd1m
                have hds : (f1.drop i).size = c1.size + 1 + (f1.drop (i + 1)).size := by rw [hd1]; rfl
                have hrow' := hrow.same (hbz.block gp hrow.lt)
                have hpx' : wc.heap[gx]? = some (.cells #[.slice (some ⟨g1, o1, none⟩) n1 cap1, .slice (some ⟨g2, o2, none⟩) n1 cap2] 43 (0, 0)) := (hbz.block gx (Array.getElem?_eq_some_iff.1 hpx).1).trans hpx
                have hbw' := hbw.trans (hbz.mono (by have := hbw.size; omega))
                obtain ⟨y0, y1, y2⟩ := hna.box
                obtain ⟨z0, z1, z2⟩ := hnc.box
                have hgas := hna.lt
                have hgcs := hnc.lt
                replace hd1 := hide hd1
                replace hd2 := hide hd2
                replace hq2' := hide hq2
                clear hp0 hp1 u0 u1 u2 v0 v1 v2 hrow hpx hbw hbz
                cases q2 with
                | false =>
                  obtain rfl : R = false := by
                    cases R with
                    | false => rfl
                    | true =>
                      exfalso
                      have h1 := (hst2.1 (hRa.1 rfl).2).1
                      injection h1 with e1 e2 e3
                      exact of_decide_eq_false hq2 ⟨e1, e2, by rw [← hl1c, ← hl2c, e3]⟩
                  clear hRa hst2 hq2
                  replace hbw' := hide hbw'
                  replace hrow' := hide hrow'
                  replace hpx' := hide hpx'
                  go_wp2_with fail
                  refine (unhide hAl2).mono ?_
                  rintro e W6 ⟨rfl, hb6⟩
                  have hfin := hide ((unhide hbw').trans (hb6.mono (by have := (unhide hbw').size; omega)))
                  go_wp2
                  go_ret
                  exact ⟨rfl, by rw [hgb]; exact unhide hfin⟩
                | true =>
                  obtain ⟨e1, e2, e3⟩ := of_decide_eq_true hq2
                  subst e1 e2 e3
                  have hRc : R = true ↔ (AllEq fs ∧ c1 = c2 ∧ f1.drop (i + 1) = f2.drop (i + 1)) := by
                    rw [hRa, hst2]
                    simp only [Nd.mk.injEq, true_and]
                  clear hRa hst2 hq2
                  have hstl := hst.len
                  have hml := nu2_len fs
                  have hroom := hrow'.room
                  rw [List.length_reverse, hstl, ← hm] at hroom
                  rw [← hm] at hml hstl
                  unfold maxLen at hroom
                  replace hm := hide hm
                  replace hbw' := hide hbw'
                  replace hrow' := hide hrow'
                  replace hpx' := hide hpx'
                  replace hna := hide hna
                  replace hnc := hide hnc
                  replace hc1 := hide hc1
                  replace hc2 := hide hc2
                  replace hst := hide hst
                  replace hle := hide hle
                  go_wp2_with fail
                  refine (unhide hAl2).mono ?_
                  rintro e W6 ⟨rfl, hb6⟩
                  have hna6 := (unhide hna).same (hb6.block ga hgas)
                  have hnc6 := (unhide hnc).same (hb6.block gc hgcs)
                  have hrow6 := hide ((unhide hrow').same (hb6.block gp (unhide hrow').lt))
                  have hpx6 := hide ((hb6.block gx (Array.getElem?_eq_some_iff.1 (unhide hpx')).1).trans (unhide hpx'))
                  have hbw6 := hide ((unhide hbw').trans (hb6.mono (by have := (unhide hbw').size; omega)))
                  clear y0 y1 y2 z0 z1 z2 hb6 hAl2
                  obtain ⟨y0, y1, y2⟩ := hna6.box
                  obtain ⟨z0, z1, z2⟩ := hnc6.box
                  have hga6 := hna6.lt
                  have hgc6 := hnc6.lt
                  by_cases hl10 : 0 < l1
                  · have hl1z : (0 : Int) < l1 := by omega
                    have hs6 := (unhide hbw6).size
                    have hgp6 := (unhide hrow6).lt
                    have hl6 : ts.reverse.length = m := by rw [List.length_reverse, hstl]
                    have hown6 := (unhide hrow6).own (base := gb) hgpB
                    rw [hl6] at hown6
                    have hown7 := World.ownsRow.alloc hown6 (.cells #[.slice b1 l1 d1, .slice b2 l1 d2] 43 (0, 0))
                    have hnews : ∀ (j : Nat) (u : Value), [Value.slice b1 l1 d1, Value.slice b2 l1 d2][j]? = some u → (W6.alloc (.cells #[.slice b1 l1 d1, .slice b2 l1 d2] 43 (0, 0))).cell? (Addr.add ⟨W6.heap.size, 0, none⟩ j) = some u := by
                      intro j u hj
                      rw [show Addr.add ⟨W6.heap.size, 0, none⟩ j = ⟨W6.heap.size, j, none⟩ by simp [Addr.add]; omega, World.cell?_alloc_mark, List.getElem?_toArray]
                      exact hj
                    have hs7 : (W6.alloc (.cells #[.slice b1 l1 d1, .slice b2 l1 d2] 43 (0, 0))).heap.size = W6.heap.size + 1 := by simp
                    have hbA := hide (below_alloc W6 (.cells #[.slice b1 l1 d1, .slice b2 l1 d2] 43 (0, 0)))
                    have hgx6 := (Array.getElem?_eq_some_iff.1 (unhide hpx6)).1
                    rw [hgb] at hs6
                    replace hown6 := hide hown6
                    replace hown7 := hide hown7
                    replace hnews := hide hnews
                    replace hl6 := hide hl6
                    replace hstl := hide hstl
                    replace hna6 := hide hna6
                    replace hnc6 := hide hnc6
                    obtain ⟨i0, hi, hz0, hz1, hz2⟩ := info_parts Tryd.info43
                    have hinf := hide (And.intro hi (And.intro hz0 (And.intro hz1 hz2)))
                    clear hi hz0 hz1 hz2
                    go_wp2_with (at_builtin; refine wpList_append_lies _ rfl _ _ 44 rfl gb 43 i0 _ 2 48 Tryd.underlying44 (unhide hinf).1 (unhide hinf).2.1 (unhide hinf).2.2.1 (unhide hinf).2.2.2 rfl (by decide) _ m _ rfl (unhide hown7) ⟨W6.heap.size, 0, none⟩ 1 1 [.slice b1 l1 d1, .slice b2 l1 d2] rfl rfl (unhide hnews) ?h1 (by omega) (by unfold maxLen; omega) (by omega) (by simp; omega) _ rfl ?_; case h1 => (intro u hu; simp only [List.mem_cons, List.not_mem_nil, or_false] at hu; rcases hu with rfl | rfl <;> rfl))
                    intro gq cq W8 hown8 hg8 hat8 hlt8
                    have hprc : prC ts.reverse ++ [.slice b1 l1 d1, .slice b2 l1 d2] = prC ((.slice b1 l1 d1, .slice b2 l1 d2) :: ts).reverse := by rw [List.reverse_cons, prC_app]; rfl
                    rw [hprc] at hown8
                    have hr8 := hide (RowQ.of (by rw [List.length_reverse, List.length_cons, unhide hstl]) hown8)
                    have hgq : gb ≤ gq ∧ gq ≠ gx := by
                      rcases hat8 with h | h
                      · have : gq = gp := by simpa [Value.ownBlock] using h.symm
                        omega
                      · have h : gq = W6.heap.size + 1 := h
                        omega
                    have hst8 : Hid (StkQ w ((.slice b1 l1 d1, .slice b2 l1 d2) :: ts) ((c1, c2) :: fs)) := hide ⟨⟨_, _, _, _, _, rfl, unhide hc1, unhide hc2⟩, unhide hst⟩
                    have hle8 : Hid (∀ p ∈ (c1, c2) :: fs, p.1.len = p.2.len) := hide (fun p hp => by
                      rcases List.mem_cons.1 hp with rfl | hp
                      · show c1.len = c2.len; omega
                      · exact unhide hle p hp)
                    have hRd : R = true ↔ (AllEq ((c1, c2) :: fs) ∧ f1.drop (i + 1) = f2.drop (i + 1)) := by
                      rw [hRc, allEq_cons]
                      constructor
                      · rintro ⟨h1, h2, h3⟩; exact ⟨⟨h2, h1⟩, h3⟩
                      · rintro ⟨⟨h2, h1⟩, h3⟩; exact ⟨h1, h2, h3⟩
                    have hpx8 := hide ((hg8.block gx (by rw [hs7]; omega) (fun e => hgne (by
                      have : gp = gx := by simpa [Value.ownBlock] using e.symm
                      exact this))).trans (((unhide hbA).block gx hgx6).trans (unhide hpx6)))
                    have hb8 : Hid (RowKit.Below gb w W8) := hide (((unhide hbw6).trans ((unhide hbA).mono (by omega))).grown hg8 (by rw [hs7]; omega) (fun q hq => by
                      have : gp = q := by simpa [Value.ownBlock] using hq
                      omega))
                    have hm8 : Hid (m + 1 = ((c1, c2) :: fs).length) := hide (by rw [List.length_cons, ← unhide hm])
                    have hnu8 : nu2 ((c1, c2) :: fs) + (f1.drop (i + 1)).size ≤ g' := by simp only [nu2]; omega
                    clear hown8 hg8 hat8 hs7 hRc
                    go_wp2
                    go_roundg q'
                    case measure => omega
                    case rel => exact ⟨i + 1, _, _, gq, cq, m + 1, by go_num, by omega, rfl, unhide hm8, hnu8, unhide hr8, hgq.1, hgq.2, unhide hst8, unhide hle8, hRd, unhide hpx8, unhide hb8⟩
                  · have hl1z : ¬ (0 : Int) < l1 := by omega
                    have hcc : c1 = c2 := by
                      have q1 : c1.len = 0 := by omega
                      have q2 : c2.len = 0 := by omega
                      cases c1 with
                      | nil => cases c2 with
                        | nil => rfl
                        | cons _ _ _ _ => simp [F.len] at q2
                      | cons _ _ _ _ => simp [F.len] at q1
                    have hRd : R = true ↔ (AllEq fs ∧ f1.drop (i + 1) = f2.drop (i + 1)) := by
                      rw [hRc]
                      constructor
                      · rintro ⟨h1, h2, h3⟩; exact ⟨h1, h3⟩
                      · rintro ⟨h1, h3⟩; exact ⟨h1, hcc, h3⟩
                    have hnu8 : nu2 fs + (f1.drop (i + 1)).size ≤ g' := by omega
                    replace hcc := hide hcc
                    clear hRc
                    go_wp2
                    go_roundg q'
                    case measure => omega
                    case rel => exact ⟨i + 1, ts, fs, gp, cp, m, by go_num, by omega, rfl, unhide hm, hnu8, unhide hrow6, hgpB, hgne, unhide hst, unhide hle, hRd, unhide hpx6, unhide hbw6⟩
            · have hlz : ¬ (i : Int) < n1 := by omega
              rw [F.drop_end (by omega), F.drop_end (by omega)] at hRa
              have hnu3 : nu2 fs ≤ g' := by omega
              have hRa3 : R = true ↔ AllEq fs := by rw [hRa]; simp
              replace hm := hide hm
              clear hRa
              go_wp2
              go_roundg g'
              case measure => omega
              case rel => exact ⟨ts, fs, gp, cp, m, rfl, unhide hm, hnu3, by omega, hrow, hgpB, hst, hle, hRa3, hbw⟩
end Go.Proofs.YthnapcdanccohaaDoor

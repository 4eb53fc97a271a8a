/-
  How many nodes there are, up to some.
-/
import Derived.Test.YtiknnobgoamgcaaGreatDoorB02
import Derived.Test.YtiknnobgoamgcaaGreatDoorMWkRow
import Derived.Test.YtiknnobgoamgcaaGreatDoorB01
import Derived.Deep.LoopGhost
import Derived.WalkSmall
import Derived.Deep.DeepCutAuto
namespace Go.Proofs.YtiknnobgoamgcaaGreatDoor
open Go.RowKit Go.Lib Go.Sort
set_option linter.unusedSimpArgs false
set_option linter.unusedVariables false
/-- Of a list of trees, from c on; not beyond the most. -/
def bgF (most : Int) : Int → F → Int
  | c, .nil => c
  | c, .cons _ _ x r => if c ≤ most then bgF most (c + bgF (most - c) 1 x) r else c
/-- At most one more than the most, or all of them. -/
theorem bgF_rng : ∀ (f : F) (most c : Int), 0 ≤ most → 1 ≤ c → c ≤ most + 1 → c ≤ bgF most c f ∧ bgF most c f ≤ most + 1 ∧ (bgF most c f ≤ most → bgF most c f = c + f.size)
  | .nil, most, c, h0, h1, h2 => ⟨Int.le_refl _, h2, fun _ => by simp [bgF, F.size]⟩
  | .cons k t x r, most, c, h0, h1, h2 => by
    unfold bgF
    split
    · rename_i hc
      obtain ⟨a1, a2, a3⟩ := bgF_rng x (most - c) 1 (by omega) (by omega) (by omega)
      obtain ⟨b1, b2, b3⟩ := bgF_rng r most (c + bgF (most - c) 1 x) h0 (by omega) (by omega)
      refine ⟨by omega, b2, fun h => ?_⟩
      have hb := b3 h
      rw [hb] at h
      have ha := a3 (by omega)
      rw [hb, ha]
      simp only [F.size]
      omega
    · exact ⟨Int.le_refl _, h2, fun h => by omega⟩
set_option maxHeartbeats 8000000 in
set_option maxRecDepth 100000 in
theorem slBig_any : ∀ (N : Nat) (k t : Int) (a : Option Addr) (n c : Nat) (f : F) (most : Int) (w : World), f.deep < N → 0 ≤ most → most ≤ 1000 → Wl w a n c f →
    Calls Tryz.prog 9 #[.agg #[.int .i64 k, .int .i64 t, .slice a n c], .int .i64 most] w fun e w' => e = .returned (.int .i64 (bgF most 1 f)) ∧ Below w.heap.size w w' := by
  intro N
  induction N with
  | zero => intro k t a n c f most w hN; omega
  | succ N ih =>
    intro k t a n c f most w hN hm0 hm1 hs
    replace ih := zH ih
    have hbA := below_alloc w (.cells #[.int .i64 k, .int .i64 t, .slice a n c] 24 (0, 0))
    have x1 := nblk_new w k t a n c
    have hz1 : (w.alloc (.cells #[.int .i64 k, .int .i64 t, .slice a n c] 24 (0, 0))).heap.size = w.heap.size + 1 := by simp
    obtain ⟨W1, hW1⟩ : ∃ W1, w.alloc (.cells #[.int .i64 k, .int .i64 t, .slice a n c] 24 (0, 0)) = W1 := ⟨_, rfl⟩
    obtain ⟨gb, hgb⟩ : ∃ gb, w.heap.size = gb := ⟨_, rfl⟩
    rw [hW1] at hbA x1 hz1
    rw [hgb] at x1 hz1
    replace hz1 := And.intro (Nat.le_of_eq hz1) (Nat.le_of_eq hz1.symm)
    have hsx := hs.below hbA
    have hcap := hsx.2.1.1
    have hcap2 := hsx.2.2.1
    unfold maxLen at hcap2
    have hln : f.len = n := hsx.1.symm
    obtain ⟨p0, p1, p2⟩ := x1.box
    replace x1 := zH x1
    replace hbA := zH hbA
    replace hsx := zH hsx
    replace hW1 := zH hW1
    replace hgb := zH hgb
    replace hln := zH hln
    clear hs
    go_enter Tryz.func9, Tryz.ntmps9
    go_upto_region 1 with fail
    rw [uH hW1, uH hgb]
    go_wp2
    clear p0 p1 p2
    go_loopg [5, 6] n (fun gf s5 s6 wx => ∃ (i : Nat) (q : Int), s5 = .int .i64 q ∧ s6 = .int .i64 i ∧ i + gf = n ∧ bgF most q (f.drop i) = bgF most 1 f ∧ 1 ≤ q ∧ q ≤ most + 1 ∧ Below W1.heap.size W1 wx)
    case atStart => exact ⟨0, 1, rfl, rfl, by omega, by rw [show f.drop 0 = f by cases f <;> rfl], by omega, by omega, Below.refl _ _⟩
    case round =>
      obtain ⟨i, q, rfl, rfl, hig, hq, hq1, hq2, hbx⟩ := hrel
      have xx := (uH x1).same (hbx.block gb (uH x1).lt)
      obtain ⟨p0, p1, p2⟩ := xx.box
      clear xx
      by_cases hlt : i < n
      · have hlz : (i : Int) < n := by omega
        by_cases hqm : q ≤ most
        · obtain ⟨g', rfl⟩ : ∃ g', gk = g' + 1 := ⟨gk - 1, by omega⟩
          obtain ⟨g1, o1, k1, t1, a1, n1, cap1, c1, rfl, ht1, hd1, y0, y1, y2, hc1'⟩ := ((uH hsx).below hbx).at hlt
          have hdp : c1.deep < N := by
            have key : ∀ (f : F) (i : Nat), (f.drop i).deep ≤ f.deep := by
              intro f
              induction f with
              | nil => intro i; rw [F.drop_nil]; exact Nat.le_refl _
              | cons k t c r _ ih =>
                intro i
                cases i with
                | zero => exact Nat.le_refl _
                | succ i => have := ih i; simp only [F.drop, F.deep]; omega
            have := key f i
            rw [hd1] at this
            simp only [F.deep] at this
            omega
          have hR := zH (uH ih k1 t1 a1 n1 cap1 c1 (most - q) wr hdp (by omega) (by omega) hc1')
          obtain ⟨r1, r2, r3⟩ := bgF_rng c1 (most - q) 1 (by omega) (by omega) (by omega)
          rw [hd1] at hq
          rw [show bgF most q (.cons k1 t1 c1 (f.drop (i + 1))) = bgF most (q + bgF (most - q) 1 c1) (f.drop (i + 1)) by rw [bgF, if_pos hqm]] at hq
          generalize bgF (most - q) 1 c1 = z at *
          replace hbx := zH hbx
          replace hq := zH hq
          clear hc1' hd1 ht1 r3
          go_wp2_with fail
          refine (uH hR).mono ?_
          rintro e W7 ⟨rfl, hb7⟩
          have hb8 := zH (below3 (uH hbx) hb7)
          clear hb7 hR p0 p1 p2 y0 y1 y2
          go_wp2
          go_roundg g'
          case measure => omega
          case rel => exact ⟨i + 1, q + z, by go_num, by go_num, by omega, uH hq, by omega, by omega, uH hb8⟩
        · have hbf : bgF most 1 f = q := by
            rw [← hq]
            cases f.drop i with
            | nil => rfl
            | cons k t x r => rw [bgF, if_neg hqm]
          have hfin := zH (below3 (uH hbA) hbx)
          replace hbf := zH hbf
          clear hq
          go_wp2
          go_ret
          exact ⟨by rw [uH hbf]; rfl, uH hfin⟩
      · have hlz : ¬ (i : Int) < n := by omega
        have hbf : bgF most 1 f = q := by
          rw [← hq, F.drop_end (by rw [uH hln]; omega)]
          rfl
        have hfin := zH (below3 (uH hbA) hbx)
        replace hbf := zH hbf
        clear hq
        go_wp2
        go_ret
        exact ⟨by rw [uH hbf]; rfl, uH hfin⟩
end Go.Proofs.YtiknnobgoamgcaaGreatDoor

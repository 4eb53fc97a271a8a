/-
  The reference's Shape.
-/
import Derived.Test.YtiknnobgoamgcaaGreatDoorMShOpen
import Derived.Test.YtiknnobgoamgcaaGreatDoorMWkRow
import Derived.Test.YtiknnobgoamgcaaGreatDoorB23
import Derived.Lib.QuietBelow
import Derived.BigQuiet
import Derived.Deep.DeepCutAuto
namespace Go.Proofs.YtiknnobgoamgcaaGreatDoor
open Go.RowKit Go.Lib Go.Sort
set_option linter.unusedSimpArgs false
set_option linter.unusedVariables false
set_option maxHeartbeats 2000000 in
set_option maxRecDepth 100000 in
theorem rBare_any (k : Int) (w : World) : Calls Tryz.prog 22 #[.int .i64 k] w fun e w' => e = .returned (.bool (bareB k)) ∧ w' = w := by
  go_enter Tryz.func22, Tryz.ntmps22
  go_wp2
  all_goals go_ret
  all_goals (refine ⟨?_, rfl⟩; simp_all [bareB])
/-- All kinds are ints. -/
def KInt : F → Prop
  | .nil => True
  | .cons k _ c r => (-9223372036854775808 ≤ k ∧ k ≤ 9223372036854775807) ∧ KInt c ∧ KInt r
theorem KInt.drop : ∀ {f : F} (i : Nat), KInt f → KInt (f.drop i)
  | f, 0, h => by cases f <;> simpa [F.drop] using h
  | .nil, i + 1, h => trivial
  | .cons k t c r, i + 1, h => KInt.drop i h.2.2
theorem nameK_bs (k : Int) : nameK k = bs (nameK k).data.toList := by
  cases nameK k
  simp [bs]
theorem nameK_len (k : Int) : (nameK k).data.toList.length ≤ 8 := by
  unfold nameK
  split
  · decide
  · rename_i h
    have : ∀ j, j < 29 → (nmL.getD j ⟨#[]⟩).data.toList.length ≤ 8 := by decide
    exact this k.toNat (by omega)
set_option maxHeartbeats 8000000 in
set_option maxRecDepth 100000 in
theorem rShape_any : ∀ (N : Nat) (k t : Int) (a : Option Addr) (n c : Nat) (f : F) (v : Value) (L : List Tk) (w : World), f.size < N → N ≤ 1000000 → Wl w a n c f → Tows w v L → (-9223372036854775808 ≤ k ∧ k ≤ 9223372036854775807) → KInt f → (shN L ⟨k, t, f⟩).length ≤ 10000000000 →
    Calls Tryz.prog 11 #[.agg #[.int .i64 k, .int .i64 t, .slice a n c], v] w fun e w' => e = .returned (.string (bs (shN L ⟨k, t, f⟩))) ∧ Below w.heap.size w w' := by
  intro N
  induction N with
  | zero => intro k t a n c f v L w hN; omega
  | succ N ih =>
    intro k t a n c f v L w hN hN2 hs hT hk hK hlen
    replace ih := zH ih
    obtain ⟨total, htot⟩ : ∃ X, shN L ⟨k, t, f⟩ = X := ⟨_, rfl⟩
    rw [htot] at hlen ⊢
    have hst : shO L k t ++ shF L f ++ [41] = total := by rw [← htot]; rfl
    have hbA := below_alloc w (.cells #[.int .i64 k, .int .i64 t, .slice a n c] 24 (0, 0))
    have x1 := nblk_new w k t a n c
    have hz1 : (w.alloc (.cells #[.int .i64 k, .int .i64 t, .slice a n c] 24 (0, 0))).heap.size = w.heap.size + 1 := by simp
    obtain ⟨W1, hW1⟩ : ∃ W1, w.alloc (.cells #[.int .i64 k, .int .i64 t, .slice a n c] 24 (0, 0)) = W1 := ⟨_, rfl⟩
    obtain ⟨gb, hgb⟩ : ∃ gb, w.heap.size = gb := ⟨_, rfl⟩
    rw [hW1] at hbA x1 hz1
    rw [hgb] at x1 hz1
    replace hz1 := And.intro (Nat.le_of_eq hz1) (Nat.le_of_eq hz1.symm)
    obtain ⟨p0, p1, p2⟩ := x1.box
    replace x1 := zH x1
    replace hbA := zH hbA
    replace hst := zH hst
    replace htot := zH htot
    replace hs := zH hs
    replace hT := zH hT
    replace hK := zH hK
    have hNm := zH (fun w => rNameN_any k w hk)
    clear hk
    replace hW1 := zH hW1
    replace hgb := zH hgb
    have hol : ∀ X Y : List UInt8, X ++ Y = total → X.length ≤ 10000000000 := fun X Y h => by rw [← h, List.length_append] at hlen; omega
    replace hol := zH hol
    have hnl := nameK_len k
    go_enter Tryz.func11, Tryz.ntmps11
    go_upto_region 1 with fail
    rw [uH hW1, uH hgb]
    go_wp2_with fail
    refine (uH hNm _).mono ?_
    rintro e W2 ⟨rfl, hb2⟩
    have x2 := (uH x1).same (hb2.block gb (by omega))
    clear p0 p1 p2 hNm x1
    obtain ⟨p0, p1, p2⟩ := x2.box
    replace x2 := zH x2
    have hB2 := zH (below3 (uH hbA) hb2)
    clear hb2
    have hO : Hid (∀ X, (if bareB k then [] else [32] ++ txtT L t) = X → shO L k t = [40] ++ (nameK k).data.toList ++ X) := zH (fun X hX => by rw [shO, hX])
    rw [nameK_bs k]
    generalize (nameK k).data.toList = nm at *
    obtain ⟨S0, hS0⟩ : ∃ S0, bs nm = S0 := ⟨_, rfl⟩
    obtain ⟨S1, hS1⟩ : ∃ S1, bs ([40] ++ nm) = S1 := ⟨_, rfl⟩
    obtain ⟨S2, hS2⟩ : ∃ S2, bs ([40] ++ nm ++ [32]) = S2 := ⟨_, rfl⟩
    have q1 : (⟨#[40]⟩ : ByteArray) ++ S0 = S1 := by rw [← hS0, ← hS1]; exact bs_app [40] nm
    have q2 : S1 ++ (⟨#[32]⟩ : ByteArray) = S2 := by rw [← hS1, ← hS2]; exact bs_app _ [32]
    have y1 : S0.size ≤ 8 := by rw [← hS0, bs_size]; exact hnl
    have y2 : S1.size ≤ 9 := by rw [← hS1, bs_size, List.length_append, List.length_cons, List.length_nil]; omega
    have y3 : S2.size ≤ 10 := by rw [← hS2, bs_size]; simp only [List.length_append, List.length_cons, List.length_nil]; omega
    rw [hS0]
    replace hS0 := zH hS0
    replace hS1 := zH hS1
    replace hS2 := zH hS2
    go_wp2_with fail
    refine (rBare_any k _).mono ?_
    rintro e W3 ⟨rfl, rfl⟩
    obtain ⟨at1, ct1, rfl, hc1, hc2, hTc⟩ := (uH hT).below (uH hB2)
    go_upto_if 14 with fail
    go_cut [5] (fun s5 wx => s5 = .string (bs (shO L k t)) ∧ wx = W3)
    case first =>
      cases hbk : bareB k with
      | true =>
        have hS := uH hO [] (by rw [hbk]; rfl)
        go_wp2
        go_meet
        case rel => exact ⟨by rw [hS, List.append_nil, uH hS1], by trivial⟩
      | false =>
        have hS := uH hO ([32] ++ txtT L t) (by rw [hbk]; rfl)
        by_cases ht : 0 ≤ t ∧ t < L.length
        · obtain ⟨ht0, ht1⟩ := ht
          obtain ⟨j, rfl⟩ : ∃ j : Nat, t = (j : Int) := ⟨t.toNat, by omega⟩
          have hj : j < L.length := by omega
          have hX : txtT L j = (tkA L j).s.data.toList := by rw [txtT, if_pos ⟨ht0, ht1⟩]; rfl
          have hsO : (shO L k j).length ≤ 10000000000 := uH hol (shO L k j) _ (by rw [← uH hst, List.append_assoc])
          have hsz : (tkA L j).s.size ≤ 10000000000 := by
            rw [hS, hX] at hsO
            simp only [List.length_append, Array.length_toList] at hsO
            have : (tkA L j).s.size = (tkA L j).s.data.size := rfl
            omega
          obtain ⟨g9, o9, rfl, hg9, hc9⟩ := hTc (by omega)
          obtain ⟨j0, j1, j2, j3, j4⟩ := tkW_at hc9 hj
          have q3 : S2 ++ (tkA L j).s = bs (shO L k j) := by
            rw [← uH hS2]
            have : (tkA L j).s = bs (tkA L j).s.data.toList := by cases (tkA L j).s; simp [bs]
            rw [this, bs_app, hS, hX]
            simp only [List.append_assoc]
          clear j0 j2 j3 j4 hc9 hTc hX hS hsO
          go_wp2
          go_meet
          case rel => exact ⟨by first | rfl | rw [← q3], by trivial⟩
        · have hX : txtT L t = [] := by rw [txtT, if_neg ht]
          have hS3 : Hid (shO L k t = [40] ++ nm ++ [32]) := zH (by rw [hS, hX, List.append_nil])
          clear hS hX
          by_cases ht0 : 0 ≤ t
          · have ht1 : ¬ t < L.length := fun h => ht ⟨ht0, h⟩
            go_wp2
            go_meet
            case rel => exact ⟨by rw [uH hS3, uH hS2], by trivial⟩
          · go_wp2
            go_meet
            case rel => exact ⟨by rw [uH hS3, uH hS2], by trivial⟩
    case rest =>
      obtain ⟨rfl, rfl⟩ := hcut
      clear hTc q1 q2 y1 y2 y3 hS0 hS1 hS2 hO p0 p1 p2
      have hsx := (uH hs).below (uH hB2)
      have hln : f.len = n := hsx.1.symm
      have hcap := hsx.2.1.1
      have hcap2 := hsx.2.2.1
      unfold maxLen at hcap2
      replace hsx := zH hsx
      replace hln := zH hln
      obtain ⟨p0, p1, p2⟩ := (uH x2).box
      have hTx := zH ((uH hT).below (uH hB2))
      go_wp2
      clear p0 p1 p2
      go_loopg [5, 6] n (fun gf s5 s6 wx => ∃ (i : Nat) (out : List UInt8), s5 = .string (bs out) ∧ s6 = .int .i64 i ∧ i + gf = n ∧ out ++ shF L (f.drop i) ++ [41] = total ∧ Below wc.heap.size wc wx)
      case atStart => exact ⟨0, _, rfl, rfl, by omega, by have := uH hst; rw [show f.drop 0 = f by cases f <;> rfl]; exact this, Below.refl _ _⟩
      case round =>
        obtain ⟨i, out, rfl, rfl, hig, hout, hbx⟩ := hrel
        have xx := (uH x2).same (hbx.block gb (uH x2).lt)
        obtain ⟨p0, p1, p2⟩ := xx.box
        clear xx
        have hol2 : out.length + (shF L (f.drop i)).length + 1 ≤ 10000000000 := by
          have := congrArg List.length hout
          simp only [List.length_append, List.length_cons, List.length_nil] at this
          omega
        by_cases hlt : i < n
        · have hlz : (i : Int) < n := by omega
          obtain ⟨g', rfl⟩ : ∃ g', gk = g' + 1 := ⟨gk - 1, by omega⟩
          obtain ⟨g1, o1, k1, t1, a1, n1, cap1, c1, rfl, ht1, hd1, y0, y1, y2, hc1'⟩ := ((uH hsx).below hbx).at hlt
          have hKd := (uH hK).drop i
          rw [hd1] at hKd hout hol2
          have hsp : shF L (.cons k1 t1 c1 (f.drop (i + 1))) = [32] ++ shN L ⟨k1, t1, c1⟩ ++ shF L (f.drop (i + 1)) := by simp [shF, shN]
          rw [hsp] at hout hol2
          simp only [List.length_append, List.length_cons, List.length_nil] at hol2
          have hR := zH (uH ih k1 t1 a1 n1 cap1 c1 _ L wr (by have := F.drop_size hd1; omega) (by omega) hc1' ((uH hTx).below hbx) hKd.1 hKd.2.1 (by omega))
          have hout2 : Hid (out ++ ([32] ++ shN L ⟨k1, t1, c1⟩) ++ shF L (f.drop (i + 1)) ++ [41] = total) := zH (by rw [← hout]; simp only [List.append_assoc])
          obtain ⟨Sk, hSk⟩ : ∃ Sk, shN L ⟨k1, t1, c1⟩ = Sk := ⟨_, rfl⟩
          rw [hSk] at hR hout2 hol2
          obtain ⟨Z0, hZ0⟩ : ∃ Z0, bs out = Z0 := ⟨_, rfl⟩
          obtain ⟨Z1, hZ1⟩ : ∃ Z1, bs Sk = Z1 := ⟨_, rfl⟩
          obtain ⟨Z2, hZ2⟩ : ∃ Z2, bs ([32] ++ Sk) = Z2 := ⟨_, rfl⟩
          obtain ⟨Z3, hZ3⟩ : ∃ Z3, bs (out ++ ([32] ++ Sk)) = Z3 := ⟨_, rfl⟩
          have q1 : (⟨#[32]⟩ : ByteArray) ++ Z1 = Z2 := by rw [← hZ1, ← hZ2]; exact bs_app [32] Sk
          have q2 : Z0 ++ Z2 = Z3 := by rw [← hZ0, ← hZ2, ← hZ3]; exact bs_app _ _
          have w0 : Z0.size ≤ 10000000000 := by rw [← hZ0, bs_size]; omega
          have w1 : Z1.size ≤ 10000000000 := by rw [← hZ1, bs_size]; omega
          have w2 : Z2.size ≤ 20000000000 := by rw [← hZ2, bs_size, List.length_append, List.length_cons, List.length_nil]; omega
          rw [hZ1] at hR
          rw [hZ0]
          replace hZ3 := zH hZ3
          replace hbx := zH hbx
          clear hZ0 hZ1 hZ2 hSk hsp hout hd1 hc1' hKd ht1
          go_wp2_with fail
          refine (uH hR).mono ?_
          rintro e W7 ⟨rfl, hb7⟩
          have hb8 := zH (below3 (uH hbx) hb7)
          clear hb7 hR p0 p1 p2 y0 y1 y2
          go_wp2
          go_roundg g'
          case measure => omega
          case rel => exact ⟨i + 1, out ++ ([32] ++ Sk), by rw [uH hZ3], by go_num, by omega, uH hout2, uH hb8⟩
        · have hlz : ¬ (i : Int) < n := by omega
          rw [F.drop_end (by rw [uH hln]; omega)] at hout
          obtain ⟨Z0, hZ0⟩ : ∃ Z0, bs out = Z0 := ⟨_, rfl⟩
          obtain ⟨Z1, hZ1⟩ : ∃ Z1, bs total = Z1 := ⟨_, rfl⟩
          have q1 : Z0 ++ (⟨#[41]⟩ : ByteArray) = Z1 := by
            rw [← hZ0, ← hZ1, ← hout]
            simp only [shF, List.append_nil]
            exact bs_app out [41]
          have w0 : Z0.size ≤ 10000000000 := by rw [← hZ0, bs_size]; omega
          have hfin := zH (below3 (uH hB2) hbx)
          rw [hZ0]
          replace hZ1 := zH hZ1
          clear hZ0 hout hbx
          go_wp2
          go_ret
          exact ⟨by rw [uH hZ1]; rfl, uH hfin⟩
end Go.Proofs.YtiknnobgoamgcaaGreatDoor

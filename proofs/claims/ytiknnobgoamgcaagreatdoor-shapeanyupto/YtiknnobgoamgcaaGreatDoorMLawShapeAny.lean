/-
  ShapeAny's walk.
-/
import Derived.Test.YtiknnobgoamgcaaGreatDoorMShBegun
import Derived.Test.YtiknnobgoamgcaaGreatDoorMShText
import Derived.Test.YtiknnobgoamgcaaGreatDoorMRShape
import Derived.Test.YtiknnobgoamgcaaGreatDoorMShBig
import Derived.Test.YtiknnobgoamgcaaGreatDoorMWkArg
import Derived.Test.YtiknnobgoamgcaaGreatDoorB23
import Derived.Lib.QuietBelow
import Derived.BigQuiet
import Derived.Deep.DeepCutAuto
namespace Go.Proofs.YtiknnobgoamgcaaGreatDoor
open Go.RowKit Go.Lib Go.Sort
set_option linter.unusedSimpArgs false
set_option linter.unusedVariables false
set_option maxRecDepth 100000
theorem txtT_len {M : Nat} {L : List Tk} (h : ∀ x ∈ L, x.s.size ≤ M) (t : Int) : (txtT L t).length ≤ M := by
  unfold txtT
  split
  · rename_i ht
    have hi : t.toNat < L.length := by omega
    have := h _ (List.mem_of_getElem? (tkA_in hi))
    rw [Array.length_toList]
    exact this
  · exact Nat.zero_le _
theorem shO_len {M : Nat} {L : List Tk} (h : ∀ x ∈ L, x.s.size ≤ M) (k t : Int) : (shO L k t).length ≤ M + 10 := by
  have h1 := nameK_len k
  have h2 := txtT_len h t
  simp only [shO, List.length_append, List.length_cons, List.length_nil]
  split <;> simp only [List.length_append, List.length_cons, List.length_nil] <;> omega
theorem shF_len {M : Nat} {L : List Tk} (h : ∀ x ∈ L, x.s.size ≤ M) : ∀ f : F, (shF L f).length ≤ f.size * (M + 12)
  | .nil => Nat.zero_le _
  | .cons k t c r => by
    have h1 := shO_len h k t
    have h2 := shF_len h c
    have h3 := shF_len h r
    simp only [shF, F.size, List.length_append, List.length_cons, List.length_nil, Nat.add_mul, Nat.one_mul]
    omega
theorem shN_len {L : List Tk} (h : ∀ x ∈ L, x.s.size ≤ 1048576) (k t : Int) (f : F) (hf : f.size ≤ 60) : (shN L ⟨k, t, f⟩).length ≤ 10000000000 := by
  have h1 := shO_len h k t
  have h2 := shF_len h f
  have h3 : f.size * (1048576 + 12) ≤ 60 * (1048576 + 12) := Nat.mul_le_mul hf (Nat.le_refl _)
  simp only [shN, List.length_append, List.length_cons, List.length_nil]
  omega
set_option maxHeartbeats 8000000 in
theorem shapeAny_shell (k t : Int) (a : Option Addr) (n c : Nat) (f : F) (v : Value) (L : List Tk) (w : World) (hs : Wl w a n c f) (hT : Tows w v L) (hk : -9223372036854775808 ≤ k ∧ k ≤ 9223372036854775807) (hK : KInt f) (hz : ∀ x ∈ L, x.s.size ≤ 1048576) (hTab : Tab w) :
    Calls Tryz.prog 3 #[.agg #[.int .i64 k, .int .i64 t, .slice a n c], v] w fun e w' => e = .returned (.bool true) ∧ Below w.heap.size w w' := by
  have hbA := below_alloc w (.cells #[.int .i64 k, .int .i64 t, .slice a n c] 24 (0, 0))
  have x1 := nblk_new w k t a n c
  obtain ⟨W1, hW1⟩ : ∃ W1, w.alloc (.cells #[.int .i64 k, .int .i64 t, .slice a n c] 24 (0, 0)) = W1 := ⟨_, rfl⟩
  obtain ⟨gb, hgb⟩ : ∃ gb, w.heap.size = gb := ⟨_, rfl⟩
  rw [hW1] at hbA x1
  rw [hgb] at x1
  have HB := zH (slBegun_any W1 (hTab.of hbA))
  replace x1 := zH x1
  replace hbA := zH hbA
  replace hs := zH hs
  replace hT := zH hT
  replace hK := zH hK
  replace hTab := zH hTab
  replace hW1 := zH hW1
  replace hgb := zH hgb
  replace hk := zH hk
  obtain ⟨L', hL'⟩ : ∃ L', (if 20 < L.length then L.take 20 else L) = L' := ⟨_, rfl⟩
  have hz' : ∀ x ∈ L', x.s.size ≤ 1048576 := fun x hx => by
    rw [← hL'] at hx
    split at hx
    · exact hz x (List.mem_of_mem_take hx)
    · exact hz x hx
  replace hz' := zH hz'
  replace hL' := zH hL'
  clear hz
  go_enter Tryz.func3, Tryz.ntmps3
  go_upto_region 1 with fail
  rw [uH hW1, uH hgb]
  go_wp2_with fail
  refine (uH HB).mono ?_
  rintro e W2 ⟨rfl, hb2⟩
  have x2 := zH ((uH x1).same (hb2.block gb (uH x1).lt))
  have hB2 := zH (below3 (uH hbA) hb2)
  clear hb2 HB x1
  obtain ⟨at1, ct1, rfl, hc1, hc2, hTc⟩ := (uH hT).below (uH hB2)
  go_upto_if 11 with fail
  go_cut [1] (fun s1 wx => Tows W2 s1 L' ∧ wx = W2)
  case first =>
    by_cases hL : 20 < L.length
    · obtain ⟨g9, o9, rfl, hg9, hc9⟩ := hTc (by omega)
      have hLz : (20 : Int) < L.length := by omega
      have hl1 : (L.take 20).length = 20 := by rw [List.length_take]; omega
      have hle : L' = L.take 20 := by rw [← uH hL', if_pos hL]
      have hT2 : Tows W2 (.slice (some ⟨g9, o9, none⟩) 20 ct1) L' := by
        rw [hle]
        refine ⟨_, ct1, by rw [hl1], by rw [hl1]; omega, hc2, fun _ => ⟨g9, o9, rfl, hg9, fun i t hi => hc9 i t ?_⟩⟩
        rw [List.getElem?_take] at hi
        split at hi
        · exact hi
        · cases hi
      replace hT2 := zH hT2
      have hct : (20 : Int) ≤ ct1 := by omega
      clear hle hl1 hc9
      go_wp2
      go_meet
      case rel => exact ⟨uH hT2, by trivial⟩
    · have hLz : ¬ (20 : Int) < L.length := by omega
      have hT2 : Hid (Tows W2 (.slice at1 L.length ct1) L') := zH (by rw [← uH hL', if_neg hL]; exact ⟨at1, ct1, rfl, hc1, hc2, hTc⟩)
      clear hTc
      go_wp2
      go_meet
      case rel => exact ⟨uH hT2, by trivial⟩
  case rest =>
    obtain ⟨hT2, rfl⟩ := hcut
    clear hTc
    obtain ⟨at2, ct2, rfl, d1, d2, dT⟩ := id hT2
    replace hT2 := zH hT2
    clear d1 d2 dT
    have hR := zH (slBig_any (f.deep + 1) k t a n c f 60 wc (by omega) (by omega) (by omega) ((uH hs).below (uH hB2)))
    obtain ⟨r1, r2, r3⟩ := bgF_rng f 60 1 (by omega) (by omega) (by omega)
    have hbig : Hid (bgF 60 1 f ≤ 60 → f.size ≤ 60) := zH (fun h => by have := r3 h; omega)
    generalize bgF 60 1 f = q at *
    obtain ⟨p0, p1, p2⟩ := (uH x2).box
    clear r3
    go_wp2_with fail
    refine (uH hR).mono ?_
    rintro e W4 ⟨rfl, hb4⟩
    have x4 := (uH x2).same (hb4.block gb (uH x2).lt)
    have hB4 := zH (below3 (uH hB2) hb4)
    have hT4 := zH ((uH hT2).below hb4)
    have hs4 := zH ((uH hs).below (uH hB4))
    have hTab4 := zH ((uH hTab).of (uH hB4))
    clear p0 p1 p2 hb4 hR
    by_cases hq : q ≤ 60
    · have hqz : ¬ (60 : Int) < q := by omega
      have hfs := uH hbig hq
      have hlen := shN_len (uH hz') k t f hfs
      have hS1 := zH (fun d os => Calls.regrown_of (wkText_any k t a n c f (.slice at2 L'.length ct2) L' (grow (redrawn W4 d) os) ((uH hs4).below (below_regrown W4 d os)) ((uH hT4).below (below_regrown W4 d os)) ((uH hTab4).of (below_regrown W4 d os)) (by omega) hlen))
      have hS2 := zH (fun d os => Calls.regrown_of (rShape_any (f.size + 1) k t a n c f (.slice at2 L'.length ct2) L' (grow (redrawn W4 d) os) (by omega) (by omega) ((uH hs4).below (below_regrown W4 d os)) ((uH hT4).below (below_regrown W4 d os)) (uH hk) (uH hK) hlen))
      have hfin := zH (fun d os => below3 (uH hB4) (below_regrown W4 d os))
      obtain ⟨Z, hZ⟩ : ∃ Z, bs (shN L' ⟨k, t, f⟩) = Z := ⟨_, rfl⟩
      rw [hZ] at hS1 hS2
      obtain ⟨y0, y1, y2⟩ := x4.box
      have Y0 := fun d os => cell_regrown y0 d os
      have Y1 := fun d os => cell_regrown y1 d os
      have Y2 := fun d os => cell_regrown y2 d os
      clear y0 y1 y2 hlen hZ hbig r1 r2 hfs
      go_upto_region 8 with fail
      refine wp_region_quiet_below (by kernel_rfl) (by kernel_rfl) ?_
      repeat (go_big_quiet_step (first | (go_at_call 10; exact uH hS1 _ _) | (go_at_call 11; exact uH hS2 _ _)))
      refine wpQuiet_nil ?_
      rintro W' ⟨p, rfl⟩
      go_wp2
      go_ret
      exact ⟨by simp, uH hfin _ _⟩
    · have hqz : (60 : Int) < q := by omega
      have hfin := uH hB4
      replace hfin := zH hfin
      clear x4
      go_wp2
      go_ret
      exact ⟨rfl, uH hfin⟩
end Go.Proofs.YtiknnobgoamgcaaGreatDoor

/-
  The shape law's begun.
-/
import Derived.Test.YtiknnobgoamgcaaGreatDoorMShSame
import Derived.KernelRfl
namespace Go.Proofs.YtiknnobgoamgcaaGreatDoor
open Go.RowKit Go.Lib Go.Sort
set_option linter.unusedSimpArgs false
set_option linter.unusedVariables false
set_option maxRecDepth 100000
/-- What a text's words, kids and writing are, reckoned. -/
def ofChk (s x : List UInt8) (l : F) (o : Nat) : Bool := decide ((scanA (bs s)).2.2 = -1) && decide (0 < (scanA (bs s)).1.length) && decide ((scanA (bs s)).1.length ≤ 1000) &&
  (match filU (scanA (bs s)).1 60 0 with | .ok l' o' => decide (l' = l) && decide (o' = o) | _ => false) && decide (shN (scanA (bs s)).1 ⟨1, 0, l⟩ = x)
theorem ofIs_chk {s x : List UInt8} {l : F} {o : Nat} (h : ofChk s x l o = true) (hz : l.size ≤ 1000000) (hs : s.length ≤ 700000) (hx : x.length ≤ 10000000000) : OfIs (bs s) (some x) := by
  unfold ofChk at h
  simp only [Bool.and_eq_true, decide_eq_true_eq] at h
  obtain ⟨⟨⟨⟨h1, h2⟩, h3⟩, h4⟩, h5⟩ := h
  split at h4
  · rename_i l' o' hf
    simp only [Bool.and_eq_true, decide_eq_true_eq] at h4
    obtain ⟨rfl, rfl⟩ := h4
    exact ofIs_ok (bs s) (by rw [bs_size]; exact hs) (by rw [h1]; decide) h2 (by omega) (f := 60) (by decide) _ _ (filA_ok hf) hz x h5 hx
  · cases h4
theorem sb_0 : OfIs (bs [112, 97, 99, 107, 97, 103, 101, 32, 112, 10, 118, 97, 114, 32, 120, 32, 113, 46, 84, 10]) (some [40, 102, 105, 108, 101, 32, 40, 112, 97, 99, 107, 97, 103, 101, 32, 112, 41, 32, 40, 118, 97, 114, 32, 120, 32, 40, 116, 121, 112, 101, 32, 84, 32, 40, 110, 97, 109, 101, 32, 113, 41, 41, 41, 41]) := ofIs_chk (l := (.cons 2 1 .nil (.cons 4 4 (.cons 28 7 (.cons 20 5 .nil .nil) .nil) .nil))) (o := 10) (by kernel_rfl) (by decide) (by decide) (by decide)
theorem sb_1 : OfIs (bs [112, 97, 99, 107, 97, 103, 101, 32, 112]) (some [40, 102, 105, 108, 101, 32, 40, 112, 97, 99, 107, 97, 103, 101, 32, 112, 41, 41]) := ofIs_chk (l := (.cons 2 1 .nil .nil)) (o := 4) (by kernel_rfl) (by decide) (by decide) (by decide)
theorem sb_2 : OfIs (bs [112, 97, 99, 107, 97, 103, 101, 32, 32, 112, 32, 47, 47, 32, 99, 10]) (some [40, 102, 105, 108, 101, 32, 40, 112, 97, 99, 107, 97, 103, 101, 32, 112, 41, 41]) := ofIs_chk (l := (.cons 2 1 .nil .nil)) (o := 4) (by kernel_rfl) (by decide) (by decide) (by decide)
theorem sb_3 : OfIs (bs [112, 97, 99, 107, 97, 103, 101, 32, 113]) (some [40, 102, 105, 108, 101, 32, 40, 112, 97, 99, 107, 97, 103, 101, 32, 113, 41, 41]) := ofIs_chk (l := (.cons 2 1 .nil .nil)) (o := 4) (by kernel_rfl) (by decide) (by decide) (by decide)
theorem sb_scan : (scanA (bs [120])).2.2 = -1 := by kernel_rfl
theorem sb_len : (scanA (bs [120])).1.length = 3 := by kernel_rfl
theorem sb_kid : filU (scanA (bs [120])).1 60 0 = .bad 0 := by kernel_rfl
theorem sb_at : (tkA (scanA (bs [120])).1 0).p = 0 := by kernel_rfl
theorem sb_no : OfIs (bs [120]) none := ofIs_bad (bs [120]) 0 (by decide) (fun w => by
  have h := paText_bad (bs [120]) w (by decide) (by rw [sb_scan]; decide) (by rw [sb_len]; decide) (by rw [sb_len]; decide) (f := 60) (by decide) 0 (by rw [sb_len]; decide) (filA_bad sb_kid)
  rw [sb_at] at h
  exact h)
theorem plBegunX_any (w : World) : Calls Tryz.prog 17 #[] w fun e w' => e = .returned (.bool true) ∧ Below w.heap.size w w' := by
  have H := zH (plBegun_any w)
  go_enter Tryz.func17, Tryz.ntmps17
  go_wp2_with fail
  refine (uH H).mono ?_
  rintro e W1 ⟨rfl, hb⟩
  go_wp2
  go_ret
  exact ⟨rfl, hb⟩
set_option maxHeartbeats 4000000 in
theorem slBegun_any (w : World) (hT : Tab w) : Calls Tryz.prog 8 #[] w fun e w' => e = .returned (.bool true) ∧ Below w.heap.size w w' := by
  have H1 := zH (fun w hw => sb_0 w hw)
  have H2 := zH (fun w hw => sb_no w hw)
  have H3 := zH (fun w => plBegunX_any w)
  have H4 := zH (fun w hw => shSame_any _ _ _ _ sb_1 sb_2 w hw)
  have H5 := zH (fun w hw => shSame_any _ _ _ _ sb_1 sb_3 w hw)
  have hT0 := zH hT
  have e1 : sameV (some [40, 102, 105, 108, 101, 32, 40, 112, 97, 99, 107, 97, 103, 101, 32, 112, 41, 41]) (some [40, 102, 105, 108, 101, 32, 40, 112, 97, 99, 107, 97, 103, 101, 32, 112, 41, 41]) = true := by decide
  have e2 : sameV (some [40, 102, 105, 108, 101, 32, 40, 112, 97, 99, 107, 97, 103, 101, 32, 112, 41, 41]) (some [40, 102, 105, 108, 101, 32, 40, 112, 97, 99, 107, 97, 103, 101, 32, 113, 41, 41]) = false := by decide
  rw [e1] at H4
  rw [e2] at H5
  have ht : (bs [40, 102, 105, 108, 101, 32, 40, 112, 97, 99, 107, 97, 103, 101, 32, 112, 41, 32, 40, 118, 97, 114, 32, 120, 32, 40, 116, 121, 112, 101, 32, 84, 32, 40, 110, 97, 109, 101, 32, 113, 41, 41, 41, 41]).toList = [40, 102, 105, 108, 101, 32, 40, 112, 97, 99, 107, 97, 103, 101, 32, 112, 41, 32, 40, 118, 97, 114, 32, 120, 32, 40, 116, 121, 112, 101, 32, 84, 32, 40, 110, 97, 109, 101, 32, 113, 41, 41, 41, 41] := bs_toList _
  clear hT e1 e2
  go_enter Tryz.func8, Tryz.ntmps8
  go_wp2_with fail
  refine (uH H1 _ (uH hT0)).mono ?_
  rintro e W1 ⟨rfl, hb1⟩
  have hT1 := zH ((uH hT0).of hb1)
  replace hb1 := zH hb1
  simp only [ofV]
  go_wp2_with fail
  refine (uH H2 _ (uH hT1)).mono ?_
  rintro e W2 ⟨rfl, hb2⟩
  have hT2 := zH ((uH hT1).of hb2)
  have hb3 := zH (below3 (uH hb1) hb2)
  simp only [ofV]
  clear hb2
  go_wp2_with fail
  refine (uH H3 _).mono ?_
  rintro e W3 ⟨rfl, hb4⟩
  have hT3 := zH ((uH hT2).of hb4)
  have hb5 := zH (below3 (uH hb3) hb4)
  clear hb4
  go_wp2_with fail
  refine (uH H4 _ (uH hT3)).mono ?_
  rintro e W4 ⟨rfl, hb6⟩
  have hT4 := zH ((uH hT3).of hb6)
  have hb7 := zH (below3 (uH hb5) hb6)
  clear hb6
  go_wp2_with fail
  refine (uH H5 _ (uH hT4)).mono ?_
  rintro e W5 ⟨rfl, hb8⟩
  have hb9 := zH (below3 (uH hb7) hb8)
  clear hb8
  go_wp2
  go_ret
  exact ⟨rfl, uH hb9⟩
end Go.Proofs.YtiknnobgoamgcaaGreatDoor

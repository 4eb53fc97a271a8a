/-
  Edits laid one by one.
-/
import Derived.Test.YtilakbhekbamiaaEdLaw
import Derived.Test.YtilakbhekbamiaaEdBegun
namespace Go.Proofs.Ytilakbhekbamiaa
open Go.RowKit
set_option linter.unusedSimpArgs false
set_option linter.unusedVariables false
set_option maxHeartbeats 8000000 in
set_option maxRecDepth 100000 in
theorem editOne_shell (a0 : ByteArray) (a1 : Value) (L1 : List Ed) (w : World) (w0 : a0.size ≤ maxLen) (w1 : Eds w a1 L1 ∧ ∀ e ∈ L1, e.wf) :
    Calls Try.prog 5 #[.string a0, a1] w fun e w' => e = .returned (.bool true) ∧ Below w.heap.size w w' := by
  have hs := cutS_le a0 100
  have HC := hide (fun w => cut_any a0 100 w w0 (by omega))
  obtain ⟨hE, hwf⟩ := w1
  obtain ⟨hr, hB⟩ := cutE_of hwf
  have hl := cutE_len L1
  have hwf := hide (fun e he => (hwf e he).2.2)
  have hL : Hid (∀ w, Eds w a1 L1 → Calls Try.prog 8 #[a1] w fun e w' => ∃ v, e = .returned v ∧ OwnE w' w.heap.size v (cutE L1) ∧ Below w.heap.size w w') := hide (fun w h => edCut_any a1 L1 w h (unhide hwf))
  generalize cutE L1 = L at *
  generalize cutS a0 100 = s at *
  clear hwf w0
  replace hE := hide hE
  replace hB := hide hB
  replace hr := hide hr
  have HB := hide (editbegun_any w)
  go_enter Try.func5, Try.ntmps5
  go_wp2_with fail
  refine (unhide HB).mono ?_
  rintro e W0 ⟨rfl, hb0⟩
  replace hE := hide ((unhide hE).below hb0)
  clear HB
  go_wp2_with fail
  refine (unhide HC _).mono ?_
  rintro e W1 ⟨rfl, rfl⟩
  clear HC
  go_wp2_with fail
  refine (unhide hL _ (unhide hE)).mono ?_
  rintro e W1 ⟨v, rfl, hown, hb1⟩
  replace hb1 := below3 hb0 hb1
  clear hb0 hE hL
  have hE := own_eds hown
  clear hown
  cases hm : mayB L s.size with
  | false =>
    replace hm := hide hm
    replace hE := hide hE
    go_wp2_with fail
    refine (pApply_no _ L s _ (unhide hE) (by omega) (by omega) (unhide hr) (unhide hm)).mono ?_
    rintro e W2 ⟨rfl, hb2⟩
    go_wp2
    go_ret
    exact ⟨rfl, below3 hb1 hb2⟩
  | true =>
    have hall := hide (laK_zero s L)
    have hend := hide (laK_end hm)
    have hstep := hide (fun k h => la_step hm (k := k) h)
    have hlim := hide (fun k h => la_lim hm hl hs (unhide hB) (k := k) h)
    replace hm := hide hm
    obtain ⟨a, c, rfl, h1, h2, h3⟩ := id hE
    unfold maxLen at h2
    obtain ⟨n, hn⟩ : ∃ n, L.length = n := ⟨_, rfl⟩
    rw [hn] at hl h1 h3 hE hend ⊢
    replace hE := hide hE
    replace h3 := hide h3
    go_wp2_with fail
    refine (pApply_yes _ L s _ (unhide hE) (by omega) (by omega) (fun e he => Nat.le_trans (unhide hB e he) (by omega)) (unhide hr) (unhide hm)).mono ?_
    rintro e W2 ⟨rfl, hb2⟩
    go_wp2
    go_loopg [8, 9] n (fun gf s8 s9 wx => gf ≤ n ∧ s8 = .string (laK s L gf) ∧ s9 = .int .i64 ((gf : Int) - 1) ∧ Below W1.heap.size W1 wx)
    case atStart =>
      refine ⟨Nat.le_refl _, by rw [unhide hend], ?_, hb2⟩
      first | rfl | (congr 1; omega)
    case round =>
      obtain ⟨hgn, rfl, rfl, hbw⟩ := hrel
      by_cases hg0 : gk = 0
      · subst hg0
        have hteq : ((laK s L 0).toList == (appS s L).toList) = true := by rw [unhide hall]; exact beq_self_eq_true _
        go_wp2
        go_ret
        exact ⟨rfl, below3 hb1 hbw⟩
      · obtain ⟨k, rfl⟩ : ∃ k, gk = k + 1 := ⟨gk - 1, by omega⟩
        rw [show ((k + 1 : Nat) : Int) - 1 = (k : Int) by omega]
        obtain ⟨st1, st2⟩ := unhide hstep k (by omega)
        obtain ⟨g, off, rfl, hg, hc⟩ := unhide h3 (by omega)
        have hlm := unhide hlim (k + 1) (by omega)
        have hBk := unhide hB _ (getD_mem (l := L) (k := k) (by omega))
        have hrk := unhide hr _ (getD_mem (l := L) (k := k) (by omega))
        have hat := (hc k (by omega)).below hg hbw
        have hgz := hbw.size
        clear hc
        generalize L.getD k ed0 = E at *
        have hE1 : Eds wr (.slice (some ⟨g, off + k * 3, none⟩) 1 (c - k)) [E] := ⟨_, c - k, rfl, by show 1 ≤ c - k; omega, by unfold maxLen; omega, fun _ => ⟨g, off + k * 3, rfl, by omega, fun i hi => by
          match i, hi with
          | 0, _ => exact hat⟩⟩
        have hck : ¬ c = k := by omega
        have hck1 : ¬ c = k + 1 ∨ c = k + 1 := by omega
        generalize laK s L (k + 1) = T at *
        replace hE1 := hide hE1
        replace st1 := hide st1
        replace st2 := hide st2
        replace hat := hide hat
        go_wp2_with fail
        refine (pApply_yes _ [E] T _ (unhide hE1) (by show 1 ≤ 1000; omega) (by omega) (fun e he => by simp only [List.mem_cons, List.not_mem_nil, or_false] at he; rw [he]; omega) (fun e he => by simp only [List.mem_cons, List.not_mem_nil, or_false] at he; rw [he]; exact hrk) (unhide st1)).mono ?_
        rintro e W3 ⟨rfl, hb3⟩
        rw [unhide st2]
        go_wp2
        go_roundg k
        case measure => omega
        case rel => exact ⟨by omega, rfl, by first | rfl | (congr 1; omega), below3 hbw hb3⟩
end Go.Proofs.Ytilakbhekbamiaa

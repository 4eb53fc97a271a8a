/-
  The laws' same: a text's scan tells what the reference's does.
-/
import Derived.Test.YtmhkmmcicfpakaaScanEq
import Derived.Test.YtmhkmmcicfpakaaCutScan
import Derived.Test.YtmhkmmcicfpakaaUtfRefF
namespace Go.Proofs.Ytmhkmmcicfpakaa
open Go.RowKit
set_option linter.unusedSimpArgs false
set_option linter.unusedVariables false
theorem scanL_ok {s : ByteArray} : ∀ (f : Nat) (x : Sc), ScOk s x → ScOk s (scanL s f x).2 := by
  intro f
  induction f with
  | zero => intro x hx; exact hx
  | succ f ih =>
    intro x hx
    by_cases hp : x.p < s.size
    · cases ho : (x.one s).1 with
      | true => rw [scanL_step hp ho]; exact ih _ (hx.one hp ho).1
      | false => rw [scanL_stop hp ho, one_stays s x ho]; exact hx
    · rw [scanL_end (by omega)]; exact hx
theorem scanL_okE (s : ByteArray) : ScOk s (scanL s s.size sc0).2 := scanL_ok _ _ (sc0_ok s)
theorem scanR_short (s : ByteArray) (fl : Int) (hs : s.size ≤ 700000) : (scanR s fl).1.length ≤ 1000000 ∧ (scanR s fl).2.1.length ≤ 1000000 := by
  have h := scanL_okE s
  unfold scanR
  split
  · split
    · exact ⟨by simp, by simp⟩
    · have h2 := (semi_rest (scanL s s.size sc0).2).2.2.2
      have h3 := h.l
      have h4 := h.c
      have h5 := h.p
      exact ⟨by simp only [List.length_append, List.length_cons, List.length_nil]; omega, by simp only; omega⟩
  · exact ⟨by simp, by simp⟩
set_option maxHeartbeats 2000000 in
set_option maxRecDepth 100000 in
theorem same_any (s : ByteArray) (w : World) (hs : s.size ≤ 700000) :
    Calls Try.prog 10 #[.string s] w fun e w' => e = .returned (.bool true) ∧ Below w.heap.size w w' := by
  have HP := pScan_any s w hs
  have hfr := flt_range s
  have HR := fun w => rScan_any s (flt s) w (by omega) (by omega) (by omega) (fun w => rFault_any s w (by unfold maxLen; omega))
  obtain ⟨hn1, hn2⟩ := scanR_short s (bigF s (flt s)) hs
  generalize scanR s (bigF s (flt s)) = R at *
  obtain ⟨L, C, at'⟩ := R
  dsimp only at *
  replace HP := hide HP
  replace HR := hide HR
  clear hfr
  go_enter Try.func10, Try.ntmps10
  go_wp2_with fail
  refine (unhide HP).mono ?_
  rintro e W1 ⟨vl, vc, rfl, ht, hc, hw⟩
  replace ht := own_toks ht
  replace hc := own_coms hc
  replace ht := hide ht
  replace hc := hide hc
  go_wp2_with fail
  refine (unhide HR _).mono ?_
  rintro e W2 ⟨ul, uc, rfl, kt, kc, hw2⟩
  have ht := (unhide ht).below hw2
  have hc := (unhide hc).below hw2
  replace kt := own_toks kt
  replace kc := own_coms kc
  replace hw := below3 hw hw2
  clear hw2 HP HR
  have HE := hide (eqTokens_same vl ul L W2 ht kt hn1)
  clear ht kt
  obtain ⟨a, ca, rfl, ha1, ha2, ha3⟩ := hc
  obtain ⟨b, cb, rfl, hb1, hb2, hb3⟩ := kc
  have hat : (at' != at') = false := by simp
  obtain ⟨n, hn⟩ : ∃ n, C.length = n := ⟨_, rfl⟩
  rw [hn]
  rw [hn] at ha1 ha3 hb1 hb3 hn2
  replace ha3 := hide ha3
  replace hb3 := hide hb3
  go_wp2_with fail
  refine (unhide HE).mono ?_
  rintro e W3 ⟨rfl, hw3⟩
  replace hw := below3 hw hw3
  go_wp2
  go_loopg [9] n (fun gf s9 wx => ∃ i : Nat, s9 = .int .i64 i ∧ i + gf = n ∧ Below W2.heap.size W2 wx ∧ Below w.heap.size w wx)
  case atStart => exact ⟨0, rfl, by omega, hw3, hw⟩
  case round =>
    obtain ⟨i, rfl, hi, hbw, hww⟩ := hrel
    by_cases hlt : i < n
    · obtain ⟨g', rfl⟩ : ∃ g', gk = g' + 1 := ⟨gk - 1, by omega⟩
      obtain ⟨ga, rfl, hga, hca⟩ := unhide ha3 (by omega)
      obtain ⟨gb, rfl, hgb, hcb⟩ := unhide hb3 (by omega)
      obtain ⟨t, ht⟩ : ∃ t, C[i]? = some t := ⟨C[i]'(by omega), List.getElem?_eq_getElem _⟩
      obtain ⟨a0, a1, a2, a3⟩ := (hca i t ht).below hga hbw
      obtain ⟨b0, b1, b2, b3⟩ := (hcb i t ht).below hgb hbw
      have hq2 : (t.s.toList != t.s.toList) = false := by simp
      have hq3 : (t.p != t.p) = false := by simp
      have hq4 : (t.l != t.l) = false := by simp
      have hq5 : (t.n != t.n) = false := by simp
      have hlz : (i : Int) < n := by omega
      clear hca hcb
      go_wp2
      go_quiet (fail)
      go_wp2
      go_roundg g'
      case measure => omega
      case rel => exact ⟨i + 1, by go_num, by omega, below_drewN hbw _, below_drewN hww _⟩
    · have hlz : ¬ (i : Int) < n := by omega
      go_wp2
      go_ret
      exact ⟨rfl, hww⟩
end Go.Proofs.Ytmhkmmcicfpakaa

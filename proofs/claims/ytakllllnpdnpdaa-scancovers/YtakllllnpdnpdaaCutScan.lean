/-
  The program's way against the reference's; the program's Scan.
-/
import Derived.Test.YtakllllnpdnpdaaCutCut
import Derived.Test.YtakllllnpdnpdaaUtfMath
import Derived.Test.YtakllllnpdnpdaaUtfFault
namespace Go.Proofs.Ytakllllnpdnpdaa
open Go.RowKit
/-- Short texts: the same. -/
theorem scanP_short {s : ByteArray} (hs : s.size ≤ 2000) : ∀ (f : Nat) (x : Sc), scanP s f x = scanL s f x := by
  intro f
  induction f with
  | zero => intro x; rfl
  | succ f ih =>
    intro x
    by_cases hp : x.p < s.size
    · cases ho : (x.one s).1 with
      | true => rw [scanP_step hp (by omega) ho, scanL_step hp ho, ih]
      | false => rw [scanP_stop hp (by omega) ho, scanL_stop hp ho, one_stays s x ho]
    · rw [scanP_end (fun h => hp h.1), scanL_end (by omega)]
theorem scanL_far {s : ByteArray} : ∀ (f : Nat) (x : Sc), ScOk s x → x.p ≤ (scanL s f x).2.p := by
  intro f
  induction f with
  | zero => intro x _; exact Nat.le_refl _
  | succ f ih =>
    intro x hx
    by_cases hp : x.p < s.size
    · cases ho : (x.one s).1 with
      | true =>
        obtain ⟨h1, h2⟩ := hx.one hp ho
        rw [scanL_step hp ho]
        have := ih _ h1
        omega
      | false => rw [scanL_stop hp ho, one_stays s x ho]; exact Nat.le_refl _
    · rw [scanL_end (by omega)]; exact Nat.le_refl _
theorem scanL_all {s : ByteArray} : ∀ (f : Nat) (x : Sc), ScOk s x → s.size ≤ x.p + f → (scanL s f x).1 = true → (scanL s f x).2.p = s.size := by
  intro f
  induction f with
  | zero =>
    intro x hx hf _
    have := hx.p
    show x.p = s.size
    omega
  | succ f ih =>
    intro x hx hf h
    by_cases hp : x.p < s.size
    · cases ho : (x.one s).1 with
      | true =>
        obtain ⟨h1, h2⟩ := hx.one hp ho
        rw [scanL_step hp ho] at h ⊢
        exact ih _ h1 (by omega) h
      | false => rw [scanL_stop hp ho] at h; cases h
    · have := hx.p
      rw [scanL_end (by omega)]
      show x.p = s.size
      omega
theorem scanL_full (s : ByteArray) : (scanL s s.size sc0).1 = true → (scanL s s.size sc0).2.p = s.size := scanL_all _ _ (sc0_ok s) (by simp [sc0])
/-- Long ones: what stops ahead of byte 2000 stops there; else the reference comes at least as far. -/
theorem scanP_long {s : ByteArray} (hs : 2000 < s.size) : ∀ (f : Nat) (x : Sc), ScOk s x → s.size ≤ x.p + f →
    ((scanP s f x).1 = false ∧ scanL s f x = scanP s f x ∧ (scanP s f x).2.p < 2000) ∨ ((scanP s f x).1 = true ∧ 2000 ≤ (scanL s f x).2.p) := by
  intro f
  induction f with
  | zero =>
    intro x hx hf
    right
    refine ⟨rfl, ?_⟩
    show 2000 ≤ x.p
    omega
  | succ f ih =>
    intro x hx hf
    by_cases hq : x.p < 2000
    · have hp : x.p < s.size := by omega
      cases ho : (x.one s).1 with
      | true =>
        obtain ⟨h1, h2⟩ := hx.one hp ho
        rw [scanP_step hp hq ho, scanL_step hp ho]
        exact ih _ h1 (by omega)
      | false =>
        rw [scanP_stop hp hq ho, scanL_stop hp ho, one_stays s x ho]
        exact .inl ⟨rfl, rfl, hq⟩
    · rw [scanP_end (fun h => hq h.2)]
      have := scanL_far (f + 1) x hx
      exact .inr ⟨rfl, by omega⟩
def fstF (a b : Int) : Int := if a < 0 ∨ b < 0 then max a b else min a b
/-- What the program answers is what the reference does. -/
theorem scan_same (s : ByteArray) (fl : Int) (h0 : -1 ≤ fl) :
    (scanR s (bigF s fl)).2.2 = fstF fl (cutF s) ∧
    (0 ≤ fstF fl (cutF s) → (scanR s (bigF s fl)).1 = [] ∧ (scanR s (bigF s fl)).2.1 = []) ∧
    (fstF fl (cutF s) < 0 → cutF s = -1 ∧ (scanR s (bigF s fl)).2.2 = -1 ∧ (scanR s (bigF s fl)).1 = cutL s ∧ (scanR s (bigF s fl)).2.1 = (scanP s s.size sc0).2.c) := by
  by_cases hs : s.size ≤ 2000
  · have hb : bigF s fl = fl := by rw [bigF, if_neg (by omega)]
    rw [hb]
    have he := scanP_short hs s.size sc0
    have hp1 : (scanL s s.size sc0).1 = true → (scanL s s.size sc0).2.p = s.size := scanL_full s
    rw [cutF, cutL, he]
    cases hx : scanL s s.size sc0 with
    | mk b x =>
      rw [hx] at hp1
      cases b with
      | false =>
        rw [scanR_stop hx]
        simp only [Bool.false_eq_true, if_false, fstF]
        by_cases h1 : fl < 0
        · rw [if_pos (.inl h1), if_pos (.inl h1)]
          exact ⟨by omega, fun _ => ⟨trivial, trivial⟩, fun h => by omega⟩
        · rw [if_neg (show ¬ (fl < 0 ∨ (x.p : Int) < 0) by omega)]
          refine ⟨?_, fun _ => ⟨trivial, trivial⟩, fun h => by omega⟩
          split <;> omega
      | true =>
        simp only [if_true, fstF]
        rw [if_neg (show ¬ 2000 < s.size by omega), if_pos (.inr (by decide))]
        by_cases h1 : 0 ≤ fl
        · rw [scanR_bad hx h1]
          exact ⟨by simp only; omega, fun _ => ⟨rfl, rfl⟩, fun h => by omega⟩
        · rw [scanR_ok hx h1]
          refine ⟨by simp only; omega, fun h => by omega, fun _ => ⟨rfl, rfl, ?_, rfl⟩⟩
          rw [show s.size = x.p from (hp1 rfl).symm]
  · have hl := scanP_long (by omega) s.size sc0 (sc0_ok s) (by simp [sc0])
    have hb : bigF s fl = if fl < 0 ∨ 2000 < fl then 2000 else fl := by
      unfold bigF
      by_cases h : fl < 0 ∨ 2000 < fl
      · rw [if_pos ⟨by omega, h⟩, if_pos h]
      · rw [if_neg (fun h' => h h'.2), if_neg h]
    have hbr : 0 ≤ bigF s fl ∧ bigF s fl ≤ 2000 := by rw [hb]; split <;> omega
    rcases hl with ⟨l1, l2, l3⟩ | ⟨l1, l2⟩
    · cases hx : scanP s s.size sc0 with
      | mk b x =>
        rw [hx] at l1 l2 l3
        obtain rfl : b = false := l1
        dsimp only at l3
        rw [scanR_stop l2, cutF_stop hx]
        simp only [fstF]
        refine ⟨?_, fun _ => ⟨trivial, trivial⟩, fun h => ?_⟩
        · by_cases h : fl < 0 ∨ 2000 < fl
          · rw [if_pos h] at hb
            rw [hb]
            split <;> split <;> omega
          · rw [if_neg h] at hb
            rw [hb]
            split <;> split <;> omega
        · exfalso
          split at h <;> omega
    · cases hx : scanP s s.size sc0 with
      | mk b x =>
        rw [hx] at l1
        obtain rfl : b = true := l1
        rw [cutF_big hx (by omega)]
        have hf : fstF fl 2000 = bigF s fl := by
          rw [fstF, hb]
          by_cases h1 : fl < 0
          · rw [if_pos (.inl h1), if_pos (.inl h1)]; omega
          · rw [if_neg (show ¬ (fl < 0 ∨ (2000 : Int) < 0) by omega)]
            split <;> omega
        rw [hf]
        cases hy : scanL s s.size sc0 with
        | mk c y =>
          rw [hy] at l2
          dsimp only at l2
          cases c with
          | true =>
            rw [scanR_bad hy hbr.1]
            exact ⟨rfl, fun _ => ⟨rfl, rfl⟩, fun h => by omega⟩
          | false =>
            rw [scanR_stop hy, if_neg (show ¬ (bigF s fl < 0 ∨ (y.p : Int) < bigF s fl) by omega)]
            exact ⟨rfl, fun _ => ⟨rfl, rfl⟩, fun h => by omega⟩
end Go.Proofs.Ytakllllnpdnpdaa
namespace Go.Proofs.Ytakllllnpdnpdaa
open Go.RowKit
set_option linter.unusedSimpArgs false
set_option linter.unusedVariables false
set_option maxHeartbeats 400000 in
set_option maxRecDepth 100000 in
theorem scanFirst_any (a b : Int) (w : World) :
    Calls Try.prog 9 #[.int .i64 a, .int .i64 b] w fun e w' => e = .returned (.int .i64 (fstF a b)) ∧ w' = w := by
  by_cases h1 : a < 0
  · have h : fstF a b = max a b := by rw [fstF, if_pos (.inl h1)]
    rw [h]
    clear h
    go_enter Try.func9, Try.ntmps9
    go_wp2
    all_goals
      go_ret
      exact ⟨ret_int (by first | rfl | omega), rfl⟩
  · by_cases h2 : b < 0
    · have h : fstF a b = max a b := by rw [fstF, if_pos (.inr h2)]
      rw [h]
      clear h
      go_enter Try.func9, Try.ntmps9
      go_wp2
      all_goals
        go_ret
        exact ⟨ret_int (by first | rfl | omega), rfl⟩
    · have h : fstF a b = min a b := by rw [fstF, if_neg (by omega)]
      rw [h]
      clear h
      go_enter Try.func9, Try.ntmps9
      go_wp2
      all_goals
        go_ret
        exact ⟨ret_int (by first | rfl | omega), rfl⟩
set_option maxHeartbeats 2000000 in
set_option maxRecDepth 100000 in
theorem pScan_any (s : ByteArray) (w : World) (hs : s.size ≤ 700000) :
    Calls Try.prog 6 #[.string s] w fun e w' => ∃ vl vc, e = .returned (.tuple #[vl, vc, .int .i64 (scanR s (bigF s (flt s))).2.2]) ∧ OwnT w' w.heap.size vl (scanR s (bigF s (flt s))).1 ∧ OwnC w' w.heap.size vc (scanR s (bigF s (flt s))).2.1 ∧ Below w.heap.size w w' := by
  have HF := fun w => uFault_any s w (by unfold maxLen; omega)
  have hfr := flt_range s
  have hsm := scan_same s (flt s) (by omega)
  have HC := fun (w' : World) (h : CuSt w' w.heap.size w.heap.size s sc0) => cuCut_any w' w.heap.size w.heap.size s h hs
  have H1 := fun w => scanFirst_any (flt s) (cutF s) w
  have h0 := cu0_st w s
  have hw0 := below_alloc w (.cells #[.string s, .int .i64 0, .int .i64 1, .slice none 0 0, .slice none 0 0] 36)
  generalize scanR s (bigF s (flt s)) = R at *
  generalize fstF (flt s) (cutF s) = F at *
  generalize flt s = fl at *
  generalize cutF s = cf at *
  generalize cutL s = cl at *
  generalize (scanP s s.size sc0).2.c = cc at *
  replace HF := hide HF
  replace HC := hide HC
  replace H1 := hide H1
  replace h0 := hide h0
  replace hw0 := hide hw0
  replace hsm := hide hsm
  go_enter Try.func6, Try.ntmps6
  go_wp2_with fail
  refine (unhide HF _).mono ?_
  rintro e W0 ⟨rfl, hb⟩
  have hst := (unhide h0).below hb
  have hw : Below w.heap.size w W0 := (unhide hw0).trans (hb.mono (by simp))
  clear hb h0 hw0 HF
  go_wp2_with fail
  refine (unhide HC _ hst).mono ?_
  rintro e W1 ⟨rfl, hb, y, hst, hy⟩
  replace hw := hw.trans hb
  clear hb HC
  replace hst := hide hst
  go_wp2_with fail
  refine (unhide H1 _).mono ?_
  rintro e W1 ⟨rfl, rfl⟩
  clear H1
  obtain ⟨hs1, hs2, hs3⟩ := unhide hsm
  clear hsm
  by_cases hF : 0 ≤ F
  · obtain ⟨e1, e2⟩ := hs2 hF
    replace e1 := hide e1
    replace e2 := hide e2
    replace hs1 := hide hs1
    clear hs3 hs2 hy
    go_wp2
    go_ret3
    rw [unhide e1, unhide e2, unhide hs1]
    exact ⟨_, _, rfl, own_nil.1, own_nil.2, hw⟩
  · obtain ⟨e0, e1, e2, e3⟩ := hs3 (by omega)
    obtain ⟨y1, y2⟩ := hy e0
    have e1 := hide e1
    have e2 := hide (e2.trans y1.symm)
    have e3 := hide (e3.trans y2.symm)
    clear hs1 hs2 hs3 hy e0 y1 y2
    go_upto_region 5 with fail
    obtain ⟨vl5, vc5, hS5, h15, h25, h35⟩ := unhide hst
    have hS : W1.drew.heap[w.heap.size]? = some (cuObj s y.p y.line vl5 vc5) := hS5
    have hT : OwnT W1.drew w.heap.size vl5 y.l := h15
    have hC : OwnC W1.drew w.heap.size vc5 y.c := h25
    have hB : Below w.heap.size w W1.drew := hw.drew
    clear hS5 h15 h25 hst hw
    replace hT := hide hT
    replace hC := hide hC
    replace hB := hide hB
    refine wp_region_held_drew (S := fun w' => w'.heap[w.heap.size]? = some (cuObj s y.p y.line vl5 vc5)) (by kernel_rfl) hS (fun _ => ?_)
    generalize World.drew W1 = W5 at hS hT hC hB ⊢
    refine wpAnyH_take (i := 0) (v := .pointer (some ⟨w.heap.size, 3, none⟩)) rfl (by kernel_rfl) (by kernel_rfl) (by kernel_rfl) (fun _ _ _ h => h) (Or.inl ⟨by kernel_rfl, ?_⟩) hS ?_
    · intro w hSw; go_simp
    try simp only [List.getElem_toArray, List.getElem_cons_succ, List.getElem_cons_zero, Act.put, List.setIfInBounds_toArray, List.set_cons_zero, List.set_cons_succ]
    refine wpAnyH_take (i := 1) (v := vl5) rfl (by kernel_rfl) (by kernel_rfl) (by kernel_rfl) (fun _ _ _ h => h) (Or.inl ⟨by kernel_rfl, ?_⟩) hS ?_
    · intro w hSw; obtain ⟨x0, x1, x2, x3, x4⟩ := cuCells hSw; go_simp
    try simp only [List.getElem_toArray, List.getElem_cons_succ, List.getElem_cons_zero, Act.put, List.setIfInBounds_toArray, List.set_cons_zero, List.set_cons_succ]
    refine wpAnyH_take (i := 2) (v := .pointer (some ⟨w.heap.size, 4, none⟩)) rfl (by kernel_rfl) (by kernel_rfl) (by kernel_rfl) (fun _ _ _ h => h) (Or.inl ⟨by kernel_rfl, ?_⟩) hS ?_
    · intro w hSw; go_simp
    try simp only [List.getElem_toArray, List.getElem_cons_succ, List.getElem_cons_zero, Act.put, List.setIfInBounds_toArray, List.set_cons_zero, List.set_cons_succ]
    refine wpAnyH_take (i := 3) (v := vc5) rfl (by kernel_rfl) (by kernel_rfl) (by kernel_rfl) (fun _ _ _ h => h) (Or.inl ⟨by kernel_rfl, ?_⟩) hS ?_
    · intro w hSw; obtain ⟨x0, x1, x2, x3, x4⟩ := cuCells hSw; go_simp
    try simp only [List.getElem_toArray, List.getElem_cons_succ, List.getElem_cons_zero, Act.put, List.setIfInBounds_toArray, List.set_cons_zero, List.set_cons_succ]
    refine wpAnyH_take (i := 4) (v := vl5) rfl (by kernel_rfl) (by kernel_rfl) (by kernel_rfl) (fun _ _ _ h => h) (Or.inl ⟨by kernel_rfl, ?_⟩) hS ?_
    · intro w hSw; go_simp
    try simp only [List.getElem_toArray, List.getElem_cons_succ, List.getElem_cons_zero, Act.put, List.setIfInBounds_toArray, List.set_cons_zero, List.set_cons_succ]
    refine wpAnyH_take (i := 5) (v := vc5) rfl (by kernel_rfl) (by kernel_rfl) (by kernel_rfl) (fun _ _ _ h => h) (Or.inl ⟨by kernel_rfl, ?_⟩) hS ?_
    · intro w hSw; go_simp
    try simp only [List.getElem_toArray, List.getElem_cons_succ, List.getElem_cons_zero, Act.put, List.setIfInBounds_toArray, List.set_cons_zero, List.set_cons_succ]
    refine wpAnyH_take (i := 6) (v := .int .i64 (-1)) rfl (by kernel_rfl) (by kernel_rfl) (by kernel_rfl) (fun _ _ _ h => h) (Or.inl ⟨by kernel_rfl, ?_⟩) hS ?_
    · intro w hSw; go_simp
    try simp only [List.getElem_toArray, List.getElem_cons_succ, List.getElem_cons_zero, Act.put, List.setIfInBounds_toArray, List.set_cons_zero, List.set_cons_succ]
    refine wpAnyH_done (by kernel_rfl) ?_ _
    clear hS
    go_wp2
    go_ret3
    rw [unhide e1, unhide e2, unhide e3]
    exact ⟨_, _, rfl, unhide hT, unhide hC, unhide hB⟩
end Go.Proofs.Ytakllllnpdnpdaa

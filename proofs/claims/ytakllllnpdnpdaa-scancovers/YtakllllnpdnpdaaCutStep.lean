/-
  What begins at a place, by its first bytes; the program's cutter.step.
-/
import Derived.Test.YtakllllnpdnpdaaCutTake
import Derived.Test.YtakllllnpdnpdaaCutClose
namespace Go.Proofs.Ytakllllnpdnpdaa
open Go.RowKit
set_option linter.unusedSimpArgs false
set_option linter.unusedVariables false
/-- A text begins with two slashes. -/
def slaB (s : ByteArray) : Bool := decide (2 ≤ s.size ∧ byteAt s 0 = 47 ∧ byteAt s 1 = 47)
theorem sla_of (s : ByteArray) (h : 2 ≤ s.size) : ((s.extract 0 2).toList == [47, 47]) = slaB s := by
  rw [Lib.extract_toList]
  obtain ⟨⟨l⟩⟩ := s
  match l, h with
  | a :: b :: r, h =>
    have h' : 2 ≤ (⟨⟨a :: b :: r⟩⟩ : ByteArray).size := h
    show ([a, b] == [47, 47]) = decide (_ ∧ a.toNat = 47 ∧ b.toNat = 47)
    rw [Bool.eq_iff_iff]
    simp only [h', true_and, beq_iff_eq, List.cons.injEq, and_true, decide_eq_true_eq, ← UInt8.toNat_inj]
    exact Iff.rfl
set_option maxHeartbeats 400000 in
set_option maxRecDepth 100000 in
theorem slaPrefix_any (s : ByteArray) (w : World) (hs : s.size ≤ 1000000) :
    Calls Try.prog 18 #[.string s, .string ⟨#[47, 47]⟩] w fun e w' => e = .returned (.bool (slaB s)) ∧ w' = w := by
  have h1 : ∀ w, Calls Try.prog 22 #[.string s, .string ⟨#[47, 47]⟩] w fun e w' => e = .returned (.bool (slaB s)) ∧ w' = w := fun w => by
    by_cases h3 : s.size < 2
    · go_enter Try.func22, Try.ntmps22
      go_wp2
      go_ret
      refine ⟨ret_bool ?_, rfl⟩
      rw [slaB, decide_eq_false (by omega)]
    · go_enter Try.func22, Try.ntmps22
      go_wp2
      go_ret
      exact ⟨ret_bool (sla_of s (by omega)), rfl⟩
  go_enter Try.func18, Try.ntmps18
  go_wp2_with fail
  refine (h1 w).mono ?_
  rintro e W ⟨rfl, rfl⟩
  go_wp2
  go_ret
  exact ⟨rfl, rfl⟩
theorem no_sla (t : ByteArray) (h : byteAt t 0 = 47) : isOp t = false := by
  cases hb : isOp t with
  | false => rfl
  | true =>
    exfalso
    have hm := inB_mem hb
    simp only [opsB, List.mem_cons, List.not_mem_nil, or_false] at hm
    rcases hm with rfl | rfl | rfl | rfl | rfl | rfl | rfl | rfl | rfl | rfl | rfl | rfl | rfl | rfl | rfl | rfl | rfl | rfl
    all_goals exact absurd h (by decide)
theorem byteAt_sub (s : ByteArray) (a b : Nat) (ha : a < b) (hb : b ≤ s.size) : byteAt (s.extract a b) 0 = byteAt s a := by
  rw [byteAt_eq, byteAt_eq, ByteArray.data_extract, Array.getElem?_extract]
  have e : s.size = s.data.size := rfl
  rw [if_pos (by omega), Nat.add_zero]
theorem opN_sla (s : ByteArray) (p : Nat) (hp : p < s.size) (h : byteAt s p = 47) : opN s p = 0 := by
  unfold opN
  rw [no_sla (s.extract p (p + 1)) (by rw [byteAt_sub s _ _ (by omega) (by omega)]; exact h)]
  by_cases h2 : p + 2 ≤ s.size
  · rw [no_sla (s.extract p (p + 2)) (by rw [byteAt_sub s _ _ (by omega) (by omega)]; exact h), Bool.and_false]
    rfl
  · rw [decide_eq_false h2, Bool.false_and]
    rfl
/-- What begins that is no blank, no newline, no comment. -/
theorem one_mark (s : ByteArray) (x : Sc) (hp : x.p < s.size) (h1 : byteAt s x.p ≠ 32) (h2 : byteAt s x.p ≠ 9) (h3 : byteAt s x.p ≠ 10) (h4 : byteAt s x.p = 47 → x.isCom s = false) :
    x.one s = (decide (mN s x.p ≠ 0), if mN s x.p ≠ 0 then x.add s (mK s x.p) (x.p + mN s x.p) else x) := by
  have ht := toN_range (s := s) (wd := false) (a := x.p) (by omega)
  have hu := toN_range (s := s) (wd := true) (a := x.p) (by omega)
  unfold Sc.one mN mK
  rw [if_neg (by omega), if_neg h3]
  by_cases h59 : byteAt s x.p = 59
  · have hl : letB (byteAt s x.p) = false := by rw [h59]; rfl
    have hd : digB (byteAt s x.p) = false := by rw [h59]; rfl
    simp [h59, hl, hd, show letB 59 = false from rfl, show digB 59 = false from rfl]
  by_cases h47 : byteAt s x.p = 47
  · have hc := h4 h47
    have ho := opN_sla s x.p hp h47
    rw [if_neg h59, if_pos h47]
    simp [h47, hc, ho, Sc.comment, show letB 47 = false from rfl, show digB 47 = false from rfl]
  by_cases h34 : byteAt s x.p = 34
  · rw [if_neg h59, if_neg h47, if_pos h34]
    have hq := qN_ge s (x.p + 1)
    cases hb : strB s x.p with
    | false => simp [h34, hb, show letB 34 = false from rfl, show digB 34 = false from rfl]
    | true =>
      have e1 : qN s (x.p + 1) + 1 - x.p ≠ 0 := by omega
      have e2 : x.p + (qN s (x.p + 1) + 1 - x.p) = qN s (x.p + 1) + 1 := by omega
      simp [h34, hb, e1, e2, show letB 34 = false from rfl, show digB 34 = false from rfl]
  rw [if_neg h59, if_neg h47, if_neg h34, if_neg h34, if_neg h59, if_neg h34, if_neg h59]
  cases hd : digB (byteAt s x.p) with
  | true =>
    have hl : letB (byteAt s x.p) = false := by
      have := (dig_iff _).1 hd
      exact is_false (let_iff _) (by omega)
    have h5 : x.p < toN s false x.p := by
      have e1 : toN s false x.p = toN s false (x.p + 1) := toN_step hp (by rw [clsB, hd]; rfl)
      have e2 := (toN_range (s := s) (wd := false) (a := x.p + 1) (by omega)).1
      omega
    cases hb : numB s x.p with
    | false => simp [hl]
    | true =>
      have e1 : toN s false x.p - x.p ≠ 0 := by omega
      have e2 : x.p + (toN s false x.p - x.p) = toN s false x.p := by omega
      simp [hl, e1, e2]
  | false =>
    rw [if_neg (by decide)]
    cases hl : letB (byteAt s x.p) with
    | true =>
      have h5 : x.p < toN s true x.p := by
        have e1 : toN s true x.p = toN s true (x.p + 1) := toN_step hp (by rw [clsB, hl]; simp)
        have e2 := (toN_range (s := s) (wd := true) (a := x.p + 1) (by omega)).1
        omega
      rw [if_pos rfl, if_pos rfl, if_pos rfl]
      by_cases hb : toN s true x.p - x.p ≤ 24
      · have e1 : toN s true x.p - x.p ≠ 0 := by omega
        have e2 : x.p + (toN s true x.p - x.p) = toN s true x.p := by omega
        rw [if_pos hb, if_pos hb, if_pos hb, decide_eq_true hb, if_pos e1, decide_eq_true e1, e2]
      · rw [if_neg hb, if_neg hb, decide_eq_false hb, if_neg (by simp)]
        rfl
    | false =>
      simp
end Go.Proofs.Ytakllllnpdnpdaa
namespace Go.Proofs.Ytakllllnpdnpdaa
open Go.RowKit
set_option linter.unusedSimpArgs false
set_option linter.unusedVariables false
theorem note_com (s : ByteArray) (x : Sc) : x.semi.note s = x.com s := by
  obtain ⟨h1, h2, h3, _⟩ := semi_rest x
  rw [Sc.note, Sc.com, h1, h2, h3]
set_option maxHeartbeats 4000000 in
set_option maxRecDepth 100000 in
theorem cuStep_any (w : World) (base g : Nat) (s : ByteArray) (x : Sc) (hx : CuSt w base g s x) (hp : x.p < s.size) (hs : s.size ≤ 1000000) (hl : x.l.length ≤ 800000) (hcl : x.c.length ≤ 800000) (hln : x.line ≤ 1000000) :
    Calls Try.prog 16 #[.pointer (some ⟨g, 0, none⟩)] w fun e w' => e = .returned (.bool (x.one s).1) ∧ CuSt w' base g s (x.one s).2 ∧ Below base w w' := by
  have HCl := fun (w : World) (h : CuSt w base g s x) => cuClose_any w base g s x h (by omega)
  have hsr := semi_rest x
  have HCm := fun (w : World) (h : CuSt w base g s x.semi) => cuComment_any w base g s x.semi h (by omega) hs (by omega) (by rw [hsr.2.2.1]; omega)
  rw [hsr.1, note_com] at HCm
  have HWd := fun (w : World) (h : CuSt w base g s x) => cuWord_any w base g s x h hp hs (by omega)
  have HP := fun w => slaPrefix_any (s.extract x.p s.size) w (by rw [ByteArray.size_extract]; omega)
  have hsl : slaB (s.extract x.p s.size) = (decide (byteAt s x.p = 47) && x.isCom s) := by
    unfold slaB Sc.isCom
    rw [ByteArray.size_extract, Nat.min_self, byteAt_extract, byteAt_extract, Nat.add_zero, ← Bool.decide_and, ← Bool.decide_and, decide_eq_decide]
    omega
  rw [hsl] at HP
  have hm := one_mark s x hp
  have hi0 : ∀ h, ((s.extract x.p s.size)[0]'h).toNat = byteAt s x.p := fun h => by rw [byteAt_idx, byteAt_extract, Nat.add_zero]
  have hr0 : 0 < (s.extract x.p s.size).size := by rw [ByteArray.size_extract]; omega
  have hbl := byteAt_lt s x.p
  have hone : x.one s = _ := rfl
  generalize hre : s.extract x.p s.size = rest at *
  obtain ⟨vl, vc, h0, h1, h2, h3⟩ := id hx
  have hS : w.drew.heap[g]? = some (cuObj s x.p x.line vl vc) := h0
  have hw : Below base w w.drew := (Below.refl _ _).drew
  have hx1 : CuSt w.drew base g s x := hx
  replace HCl := hide HCl
  replace HCm := hide HCm
  replace HWd := hide HWd
  replace HP := hide HP
  replace hx1 := hide hx1
  replace hm := hide hm
  have hpr : ¬ s.size < x.p := by omega
  clear hx h0 h1 h2 hsl hone
  go_enter Try.func16, Try.ntmps16
  go_upto_region 1 with fail
  refine wp_region_held_drew (S := fun w' => w'.heap[g]? = some (cuObj s x.p x.line vl vc)) (by kernel_rfl) hS (fun _ => ?_)
  generalize World.drew w = W at hS hw hx1 ⊢
  refine wpAnyH_take (i := 0) (v := .pointer (some ⟨g, 0, none⟩)) rfl (by kernel_rfl) (by kernel_rfl) (by kernel_rfl) (fun _ _ _ h => h) (Or.inl ⟨by kernel_rfl, ?_⟩) hS ?_
  · intro w hSw; go_simp
  try simp only [List.getElem_toArray, List.getElem_cons_succ, List.getElem_cons_zero, Act.put, List.setIfInBounds_toArray, List.set_cons_zero, List.set_cons_succ]
  refine wpAnyH_take (i := 1) (v := .pointer (some ⟨g, 0, none⟩)) rfl (by kernel_rfl) (by kernel_rfl) (by kernel_rfl) (fun _ _ _ h => h) (Or.inl ⟨by kernel_rfl, ?_⟩) hS ?_
  · intro w hSw; go_simp
  try simp only [List.getElem_toArray, List.getElem_cons_succ, List.getElem_cons_zero, Act.put, List.setIfInBounds_toArray, List.set_cons_zero, List.set_cons_succ]
  refine wpAnyH_take (i := 2) (v := .pointer (some ⟨g, 0, none⟩)) rfl (by kernel_rfl) (by kernel_rfl) (by kernel_rfl) (fun _ _ _ h => h) (Or.inl ⟨by kernel_rfl, ?_⟩) hS ?_
  · intro w hSw; go_simp
  try simp only [List.getElem_toArray, List.getElem_cons_succ, List.getElem_cons_zero, Act.put, List.setIfInBounds_toArray, List.set_cons_zero, List.set_cons_succ]
  refine wpAnyH_take (i := 3) (v := .string s) rfl (by kernel_rfl) (by kernel_rfl) (by kernel_rfl) (fun _ _ _ h => h) (Or.inl ⟨by kernel_rfl, ?_⟩) hS ?_
  · intro w hSw; obtain ⟨x0, x1, x2, x3, x4⟩ := cuCells hSw; go_simp
  try simp only [List.getElem_toArray, List.getElem_cons_succ, List.getElem_cons_zero, Act.put, List.setIfInBounds_toArray, List.set_cons_zero, List.set_cons_succ]
  refine wpAnyH_take (i := 4) (v := .pointer (some ⟨g, 0, none⟩)) rfl (by kernel_rfl) (by kernel_rfl) (by kernel_rfl) (fun _ _ _ h => h) (Or.inl ⟨by kernel_rfl, ?_⟩) hS ?_
  · intro w hSw; go_simp
  try simp only [List.getElem_toArray, List.getElem_cons_succ, List.getElem_cons_zero, Act.put, List.setIfInBounds_toArray, List.set_cons_zero, List.set_cons_succ]
  refine wpAnyH_take (i := 5) (v := .pointer (some ⟨g, 0, none⟩)) rfl (by kernel_rfl) (by kernel_rfl) (by kernel_rfl) (fun _ _ _ h => h) (Or.inl ⟨by kernel_rfl, ?_⟩) hS ?_
  · intro w hSw; go_simp
  try simp only [List.getElem_toArray, List.getElem_cons_succ, List.getElem_cons_zero, Act.put, List.setIfInBounds_toArray, List.set_cons_zero, List.set_cons_succ]
  refine wpAnyH_take (i := 6) (v := .pointer (some ⟨g, 1, none⟩)) rfl (by kernel_rfl) (by kernel_rfl) (by kernel_rfl) (fun _ _ _ h => h) (Or.inl ⟨by kernel_rfl, ?_⟩) hS ?_
  · intro w hSw; go_simp
  try simp only [List.getElem_toArray, List.getElem_cons_succ, List.getElem_cons_zero, Act.put, List.setIfInBounds_toArray, List.set_cons_zero, List.set_cons_succ]
  refine wpAnyH_take (i := 7) (v := .int .i64 x.p) rfl (by kernel_rfl) (by kernel_rfl) (by kernel_rfl) (fun _ _ _ h => h) (Or.inl ⟨by kernel_rfl, ?_⟩) hS ?_
  · intro w hSw; obtain ⟨x0, x1, x2, x3, x4⟩ := cuCells hSw; go_simp
  try simp only [List.getElem_toArray, List.getElem_cons_succ, List.getElem_cons_zero, Act.put, List.setIfInBounds_toArray, List.set_cons_zero, List.set_cons_succ]
  refine wpAnyH_take (i := 8) (v := .string rest) rfl (by kernel_rfl) (by kernel_rfl) (by kernel_rfl) (fun _ _ _ h => h) (Or.inl ⟨by kernel_rfl, ?_⟩) hS ?_
  · intro w hSw; go_simp
  try simp only [List.getElem_toArray, List.getElem_cons_succ, List.getElem_cons_zero, Act.put, List.setIfInBounds_toArray, List.set_cons_zero, List.set_cons_succ]
  refine wpAnyH_take (i := 9) (v := .string rest) rfl (by kernel_rfl) (by kernel_rfl) (by kernel_rfl) (fun _ _ _ h => h) (Or.inl ⟨by kernel_rfl, ?_⟩) hS ?_
  · intro w hSw; go_simp
  try simp only [List.getElem_toArray, List.getElem_cons_succ, List.getElem_cons_zero, Act.put, List.setIfInBounds_toArray, List.set_cons_zero, List.set_cons_succ]
  refine wpAnyH_done (by kernel_rfl) ?_ _
  by_cases h32 : byteAt s x.p = 32 ∨ byteAt s x.p = 9
  · have e : x.one s = (true, ⟨x.p + 1, x.line, x.l, x.c⟩) := by rw [Sc.one, if_pos h32]
    have hmv := (cu_moved (unhide hx1) (x.p + 1)).1
    have hwd := hw.setCell (p := ⟨g, 1, none⟩) h3 (.int .i64 ((x.p + 1 : Nat) : Int))
    obtain ⟨x0, x1, x2, x3, x4⟩ := cuCells hS
    have hf := cuFrozen hS
    have hadd : IntKind.i64.wrap ((x.p : Int) + 1) = ((x.p + 1 : Nat) : Int) := by rw [wrapI _ (by omega) (by omega)]; omega
    generalize x.p + 1 = q at *
    replace e := hide e
    replace hmv := hide hmv
    replace hwd := hide hwd
    clear hm hS hw hx1 HCl HCm HWd HP hbl
    rcases h32 with h32 | h32
    · rw [h32] at hi0
      clear h32
      go_wp2
      go_ret
      exact ⟨by rw [unhide e]; rfl, by rw [unhide e]; exact unhide hmv, unhide hwd⟩
    · rw [h32] at hi0
      clear h32
      go_wp2
      go_ret
      exact ⟨by rw [unhide e]; rfl, by rw [unhide e]; exact unhide hmv, unhide hwd⟩
  · have n32 : ¬ ((byteAt s x.p : Nat) : Int) = 32 := by omega
    have n9 : ¬ ((byteAt s x.p : Nat) : Int) = 9 := by omega
    have m32 : (((byteAt s x.p : Nat) : Int) == 32) = false := beq_eq_false_iff_ne.2 n32
    have m9 : (((byteAt s x.p : Nat) : Int) == 9) = false := beq_eq_false_iff_ne.2 n9
    by_cases h10 : byteAt s x.p = 10
    · have e : x.one s = (true, ⟨x.p + 1, x.line + 1, x.semi.l, x.c⟩) := by rw [Sc.one, if_neg h32, if_pos h10]
      rw [h10] at hi0
      replace e := hide e
      clear hm hS HCm HWd HP hbl n32 n9 h32 h10 m32 m9
      go_wp2_with fail
      refine (unhide HCl _ (unhide hx1)).mono ?_
      rintro e W1 ⟨rfl, hst, hw1⟩
      replace hw := hw.trans hw1
      clear hw1 hx1 HCl
      obtain ⟨hr1, hr2, hr3, hr4⟩ := hsr
      have hm1 := (cu_moved hst (x.p + 1)).1
      have hm2 := (cu_moved hm1 (x.line + 1)).2
      obtain ⟨vl2, vc2, hS2, _, _, _⟩ := hst
      rw [hr1, hr2] at hS2
      obtain ⟨x0, x1, x2, x3, x4⟩ := cuCells hS2
      have hf := cuFrozen hS2
      have hS3 := Joins.block_setCell (i := 1) hS2 (.int .i64 ((x.p + 1 : Nat) : Int))
      obtain ⟨y0, y1, y2, y3, y4⟩ := cuCells (p := x.p + 1) hS3
      have hf3 := cuFrozen (p := x.p + 1) hS3
      have hwd := (hw.setCell (p := ⟨g, 1, none⟩) h3 (.int .i64 ((x.p + 1 : Nat) : Int))).setCell (p := ⟨g, 2, none⟩) h3 (.int .i64 ((x.line + 1 : Nat) : Int))
      have hadd : IntKind.i64.wrap ((x.p : Int) + 1) = ((x.p + 1 : Nat) : Int) := by rw [wrapI _ (by omega) (by omega)]; omega
      have hadl : IntKind.i64.wrap ((x.line : Int) + 1) = ((x.line + 1 : Nat) : Int) := by rw [wrapI _ (by omega) (by omega)]; omega
      clear hS2 hS3 hm1 hw
      generalize x.p + 1 = q at *
      generalize x.line + 1 = ql at *
      replace hm2 := hide hm2
      replace hwd := hide hwd
      go_wp2
      go_ret
      refine ⟨by rw [unhide e]; rfl, ?_, unhide hwd⟩
      rw [unhide e, ← hr3]
      exact unhide hm2
    · have n10 : ¬ ((byteAt s x.p : Nat) : Int) = 10 := by omega
      have m10 : (((byteAt s x.p : Nat) : Int) == 10) = false := beq_eq_false_iff_ne.2 n10
      have hm := unhide hm (by omega) (by omega) h10
      cases hc : (decide (byteAt s x.p = 47) && x.isCom s) with
      | true =>
        rw [Bool.and_eq_true, decide_eq_true_eq] at hc
        have e : x.one s = (true, x.com s) := by rw [Sc.one, if_neg h32, if_neg h10, if_neg (by omega), if_pos hc.1, hc.2, Sc.comment, if_pos hc.2]
        rw [hc.1, hc.2] at HP
        replace HP := hide (unhide HP)
        rw [hc.1] at hi0
        replace e := hide e
        generalize x.com s = y at *
        clear hm hS HWd hbl n32 n9 h32 h10 n10 m32 m9 m10 hc
        go_wp2_with fail
        refine (unhide HP _).mono ?_
        rintro e W1 ⟨rfl, rfl⟩
        go_wp2_with fail
        refine (unhide HCl _ (unhide hx1)).mono ?_
        rintro e W2 ⟨rfl, hst, hw1⟩
        replace hw := hw.trans hw1
        clear hw1 hx1 HCl
        go_wp2_with fail
        refine (unhide HCm _ hst).mono ?_
        rintro e W3 ⟨rfl, hst, hw1⟩
        replace hw := hw.trans hw1
        go_wp2
        go_ret
        refine ⟨by rw [unhide e]; rfl, ?_, hw⟩
        rw [unhide e]
        exact hst
      | false =>
        have hm := hm (fun h => by rw [h] at hc; simpa using hc)
        rw [hc] at HP
        generalize (if mN s x.p ≠ 0 then x.add s (mK s x.p) (x.p + mN s x.p) else x) = z at *
        generalize decide (mN s x.p ≠ 0) = zb at *
        replace hm := hide hm
        clear hS hbl h32 h10 hc HCl HCm
        go_wp2_with fail
        refine (unhide HP _).mono ?_
        rintro e W1 ⟨rfl, rfl⟩
        go_wp2_with fail
        refine (unhide HWd _ (unhide hx1)).mono ?_
        rintro e W2 ⟨rfl, hst, hw1⟩
        go_wp2
        go_ret
        refine ⟨by rw [unhide hm]; rfl, ?_, hw.trans hw1⟩
        rw [unhide hm]
        exact hst
end Go.Proofs.Ytakllllnpdnpdaa

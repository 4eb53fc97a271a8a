/-
  The reference's scanner.one: a number.
-/
import Derived.Test.YtmhkmmcicfpakaaScanCom
import Derived.Test.YtmhkmmcicfpakaaScanAdd
import Derived.Test.YtmhkmmcicfpakaaScanTo
namespace Go.Proofs.Ytmhkmmcicfpakaa
open Go.RowKit
set_option linter.unusedSimpArgs false
set_option linter.unusedVariables false
/-- A number may be. -/
def numB (s : ByteArray) (p : Nat) : Bool := decide (toN s false p - p ≤ 12) && !(decide (1 < toN s false p - p) && decide (byteAt s p = 48)) && !(decide (toN s false p < s.size) && letB (byteAt s (toN s false p)))
set_option maxHeartbeats 4000000 in
set_option maxRecDepth 100000 in
theorem one_num (w : World) (base g : Nat) (s : ByteArray) (x : Sc) (hx : ScSt w base g s x) (hp : x.p < s.size) (hs : s.size ≤ 1000000) (hl : x.l.length ≤ 900000) (hd : digB (byteAt s x.p) = true) :
    Calls Try.prog 23 #[.pointer (some ⟨g, 0, none⟩)] w fun e w' => e = .returned (.bool (numB s x.p)) ∧ ScSt w' base g s (if numB s x.p then x.add s 2 (toN s false x.p) else x) ∧ Below base w w' := by
  have hr := toN_range (s := s) (wd := false) (a := x.p) (by omega)
  have HA := fun (w : World) (h : ScSt w base g s x) => scAdd_any w base g s x 2 (toN s false x.p) h (by omega) (by omega) (by omega)
  have HT := fun (w : World) (h : ScSt w base g s x) => scTo_any w base g s x x.p false h (by omega) hs
  have HD := fun w => rDigit_any (byteAt s x.p) w (byteAt_lt s x.p)
  rw [hd] at HD
  have hnb : numB s x.p = (decide (toN s false x.p - x.p ≤ 12) && !(decide (1 < toN s false x.p - x.p) && decide (byteAt s x.p = 48)) && !(decide (toN s false x.p < s.size) && letB (byteAt s (toN s false x.p)))) := rfl
  generalize x.add s 2 (toN s false x.p) = y at *
  generalize toN s false x.p = t at *
  generalize numB s x.p = b at *
  obtain ⟨zz, hzz⟩ : ∃ zz, (if b then y else x) = zz := ⟨_, rfl⟩
  rw [hzz]
  replace hzz := hide hzz
  have HL := fun w => rLetter_any (byteAt s t) w (byteAt_lt s t)
  generalize letB (byteAt s t) = lt at *
  have hik2 : ∀ h, (s[t]'h).toNat = byteAt s t := fun h => byteAt_idx s t h
  have hbl2 := byteAt_lt s t
  have hbl := byteAt_lt s x.p
  have hd2 := (dig_iff _).1 hd
  replace HA := hide HA
  replace HT := hide HT
  replace HD := hide HD
  replace HL := hide HL
  clear hd
  obtain ⟨vl, vc, h0, h1, h2, h3⟩ := id hx
  obtain ⟨p, line, l, c⟩ := x
  dsimp only at *
  have hS : w.drew.heap[g]? = some (scObj s p line vl vc) := h0
  have hw : Below base w w.drew := (Below.refl _ _).drew
  have hx1 : ScSt w.drew base g s ⟨p, line, l, c⟩ := hx
  have hik : ∀ h, (s[p]'h).toNat = byteAt s p := fun h => byteAt_idx s p h
  replace hx1 := hide hx1
  clear hx h0 h1 h2
  have n32 : ¬ ((byteAt s p : Nat) : Int) = 32 := by omega
  have m32 : (((byteAt s p : Nat) : Int) == 32) = false := beq_eq_false_iff_ne.2 n32
  have n9 : ¬ ((byteAt s p : Nat) : Int) = 9 := by omega
  have m9 : (((byteAt s p : Nat) : Int) == 9) = false := beq_eq_false_iff_ne.2 n9
  have n10 : ¬ ((byteAt s p : Nat) : Int) = 10 := by omega
  have m10 : (((byteAt s p : Nat) : Int) == 10) = false := beq_eq_false_iff_ne.2 n10
  have n59 : ¬ ((byteAt s p : Nat) : Int) = 59 := by omega
  have m59 : (((byteAt s p : Nat) : Int) == 59) = false := beq_eq_false_iff_ne.2 n59
  have n47 : ¬ ((byteAt s p : Nat) : Int) = 47 := by omega
  have m47 : (((byteAt s p : Nat) : Int) == 47) = false := beq_eq_false_iff_ne.2 n47
  have n34 : ¬ ((byteAt s p : Nat) : Int) = 34 := by omega
  have m34 : (((byteAt s p : Nat) : Int) == 34) = false := beq_eq_false_iff_ne.2 n34
  generalize byteAt s p = c0 at *
  go_enter Try.func23, Try.ntmps23
  go_upto_region 1 with fail
  refine wp_region_held_drew (S := fun w' => w'.heap[g]? = some (scObj s p line vl vc)) (by kernel_rfl) hS (fun _ => ?_)
  generalize World.drew w = W at hS hw hx1 ⊢
  refine wpAnyH_take (i := 0) (v := .pointer (some ⟨g, 0, none⟩)) rfl (by kernel_rfl) (by kernel_rfl) (by kernel_rfl) (fun _ _ _ h => h) (Or.inl ⟨by kernel_rfl, ?_⟩) hS ?_
  · intro w hSw; go_simp
  try simp only [List.getElem_toArray, List.getElem_cons_succ, List.getElem_cons_zero, Act.put, List.setIfInBounds_toArray, List.set_cons_zero, List.set_cons_succ]
  refine wpAnyH_take (i := 1) (v := .pointer (some ⟨g, 0, none⟩)) rfl (by kernel_rfl) (by kernel_rfl) (by kernel_rfl) (fun _ _ _ h => h) (Or.inl ⟨by kernel_rfl, ?_⟩) hS ?_
  · intro w hSw; go_simp
  try simp only [List.getElem_toArray, List.getElem_cons_succ, List.getElem_cons_zero, Act.put, List.setIfInBounds_toArray, List.set_cons_zero, List.set_cons_succ]
  refine wpAnyH_take (i := 2) (v := .pointer (some ⟨g, 0, none⟩)) rfl (by kernel_rfl) (by kernel_rfl) (by kernel_rfl) (fun _ _ _ h => h) (Or.inl ⟨by kernel_rfl, ?_⟩) hS ?_
  · intro w hSw; go_simp
  try simp only [List.getElem_toArray, List.getElem_cons_succ, List.getElem_cons_zero, Act.put, List.setIfInBounds_toArray, List.set_cons_zero, List.set_cons_succ]
  refine wpAnyH_take (i := 3) (v := .string s) rfl (by kernel_rfl) (by kernel_rfl) (by kernel_rfl) (fun _ _ _ h => h) (Or.inl ⟨by kernel_rfl, ?_⟩) hS ?_
  · intro w hSw; obtain ⟨x0, x1, x2, x3, x4⟩ := scCells hSw; go_simp
  try simp only [List.getElem_toArray, List.getElem_cons_succ, List.getElem_cons_zero, Act.put, List.setIfInBounds_toArray, List.set_cons_zero, List.set_cons_succ]
  refine wpAnyH_take (i := 4) (v := .pointer (some ⟨g, 0, none⟩)) rfl (by kernel_rfl) (by kernel_rfl) (by kernel_rfl) (fun _ _ _ h => h) (Or.inl ⟨by kernel_rfl, ?_⟩) hS ?_
  · intro w hSw; go_simp
  try simp only [List.getElem_toArray, List.getElem_cons_succ, List.getElem_cons_zero, Act.put, List.setIfInBounds_toArray, List.set_cons_zero, List.set_cons_succ]
  refine wpAnyH_take (i := 5) (v := .pointer (some ⟨g, 0, none⟩)) rfl (by kernel_rfl) (by kernel_rfl) (by kernel_rfl) (fun _ _ _ h => h) (Or.inl ⟨by kernel_rfl, ?_⟩) hS ?_
  · intro w hSw; go_simp
  try simp only [List.getElem_toArray, List.getElem_cons_succ, List.getElem_cons_zero, Act.put, List.setIfInBounds_toArray, List.set_cons_zero, List.set_cons_succ]
  refine wpAnyH_take (i := 6) (v := .pointer (some ⟨g, 1, none⟩)) rfl (by kernel_rfl) (by kernel_rfl) (by kernel_rfl) (fun _ _ _ h => h) (Or.inl ⟨by kernel_rfl, ?_⟩) hS ?_
  · intro w hSw; go_simp
  try simp only [List.getElem_toArray, List.getElem_cons_succ, List.getElem_cons_zero, Act.put, List.setIfInBounds_toArray, List.set_cons_zero, List.set_cons_succ]
  refine wpAnyH_take (i := 7) (v := .int .i64 p) rfl (by kernel_rfl) (by kernel_rfl) (by kernel_rfl) (fun _ _ _ h => h) (Or.inl ⟨by kernel_rfl, ?_⟩) hS ?_
  · intro w hSw; obtain ⟨x0, x1, x2, x3, x4⟩ := scCells hSw; go_simp
  try simp only [List.getElem_toArray, List.getElem_cons_succ, List.getElem_cons_zero, Act.put, List.setIfInBounds_toArray, List.set_cons_zero, List.set_cons_succ]
  refine wpAnyH_take (i := 8) (v := .int .u8 c0) rfl (by kernel_rfl) (by kernel_rfl) (by kernel_rfl) (fun _ _ _ h => h) (Or.inl ⟨by kernel_rfl, ?_⟩) hS ?_
  · intro w hSw; go_simp
  try simp only [List.getElem_toArray, List.getElem_cons_succ, List.getElem_cons_zero, Act.put, List.setIfInBounds_toArray, List.set_cons_zero, List.set_cons_succ]
  refine wpAnyH_take (i := 9) (v := .int .u8 c0) rfl (by kernel_rfl) (by kernel_rfl) (by kernel_rfl) (fun _ _ _ h => h) (Or.inl ⟨by kernel_rfl, ?_⟩) hS ?_
  · intro w hSw; go_simp
  try simp only [List.getElem_toArray, List.getElem_cons_succ, List.getElem_cons_zero, Act.put, List.setIfInBounds_toArray, List.set_cons_zero, List.set_cons_succ]
  refine wpAnyH_done (by kernel_rfl) ?_ _
  obtain ⟨x0, x1, x2, x3, x4⟩ := scCells hS
  clear hS
  by_cases h12 : 12 < t - p
  · obtain rfl : b = false := by rw [hnb, decide_eq_false (show ¬ t - p ≤ 12 by omega)]; simp
    have h12' : (12 : Int) < (t : Int) - p := by omega
    clear hnb
    go_wp2_with fail
    refine (unhide HD _).mono ?_
    rintro e W1 ⟨rfl, rfl⟩
    go_wp2_with fail
    refine (unhide HT _ (unhide hx1)).mono ?_
    rintro e W1 ⟨rfl, rfl⟩
    go_wp2
    go_ret
    exact ⟨rfl, by rw [← unhide hzz, if_neg (by decide)]; exact unhide hx1, hw⟩
  rw [decide_eq_true (show t - p ≤ 12 by omega), Bool.true_and] at hnb
  have h12' : ¬ (12 : Int) < (t : Int) - p := by omega
  by_cases h1 : 1 < t - p
  · have h1' : (1 : Int) < (t : Int) - p := by omega
    by_cases h48 : c0 = 48
    · obtain rfl : b = false := by rw [hnb, decide_eq_true h1, decide_eq_true h48]; simp
      subst h48
      clear hnb
      go_wp2_with fail
      refine (unhide HD _).mono ?_
      rintro e W1 ⟨rfl, rfl⟩
      go_wp2_with fail
      refine (unhide HT _ (unhide hx1)).mono ?_
      rintro e W1 ⟨rfl, rfl⟩
      go_wp2
      go_ret
      exact ⟨rfl, by rw [← unhide hzz, if_neg (by decide)]; exact unhide hx1, hw⟩
    · have n48 : ¬ ((c0 : Nat) : Int) = 48 := by omega
      have m48 : (((c0 : Nat) : Int) == 48) = false := beq_eq_false_iff_ne.2 n48
      rw [decide_eq_false h48, Bool.and_false, Bool.not_false, Bool.true_and] at hnb
      by_cases hts : t < s.size
      · have hts' : (t : Int) < s.size := by omega
        rw [decide_eq_true hts, Bool.true_and] at hnb
        cases lt with
        | true =>
          obtain rfl : b = false := by rw [hnb]; rfl
          clear hnb
          go_wp2_with fail
          refine (unhide HD _).mono ?_
          rintro e W1 ⟨rfl, rfl⟩
          go_wp2_with fail
          refine (unhide HT _ (unhide hx1)).mono ?_
          rintro e W1 ⟨rfl, rfl⟩
          go_wp2_with fail
          refine (unhide HL _).mono ?_
          rintro e W1 ⟨rfl, rfl⟩
          go_wp2
          go_ret
          exact ⟨rfl, by rw [← unhide hzz, if_neg (by decide)]; exact unhide hx1, hw⟩
        | false =>
          obtain rfl : b = true := by rw [hnb]; rfl
          clear hnb
          go_wp2_with fail
          refine (unhide HD _).mono ?_
          rintro e W1 ⟨rfl, rfl⟩
          go_wp2_with fail
          refine (unhide HT _ (unhide hx1)).mono ?_
          rintro e W1 ⟨rfl, rfl⟩
          go_wp2_with fail
          refine (unhide HL _).mono ?_
          rintro e W1 ⟨rfl, rfl⟩
          go_wp2_with fail
          refine (unhide HA _ (unhide hx1)).mono ?_
          rintro e W2 ⟨rfl, hst, hw1⟩
          replace hw := hw.trans hw1
          clear hw1 x0 x1 x2 x3 x4
          replace hst := hide hst
          go_wp2
          go_ret
          exact ⟨rfl, by rw [← unhide hzz, if_pos (by trivial)]; exact unhide hst, hw⟩
      · have hts' : ¬ (t : Int) < s.size := by omega
        obtain rfl : b = true := by rw [hnb, decide_eq_false hts]; rfl
        clear hnb
        go_wp2_with fail
        refine (unhide HD _).mono ?_
        rintro e W1 ⟨rfl, rfl⟩
        go_wp2_with fail
        refine (unhide HT _ (unhide hx1)).mono ?_
        rintro e W1 ⟨rfl, rfl⟩
        go_wp2_with fail
        refine (unhide HA _ (unhide hx1)).mono ?_
        rintro e W2 ⟨rfl, hst, hw1⟩
        replace hw := hw.trans hw1
        clear hw1 x0 x1 x2 x3 x4
        replace hst := hide hst
        go_wp2
        go_ret
        exact ⟨rfl, by rw [← unhide hzz, if_pos (by trivial)]; exact unhide hst, hw⟩
  · have h1' : ¬ (1 : Int) < (t : Int) - p := by omega
    rw [decide_eq_false h1, Bool.false_and, Bool.not_false, Bool.true_and] at hnb
    by_cases hts : t < s.size
    · have hts' : (t : Int) < s.size := by omega
      rw [decide_eq_true hts, Bool.true_and] at hnb
      cases lt with
      | true =>
        obtain rfl : b = false := by rw [hnb]; rfl
        clear hnb
        go_wp2_with fail
        refine (unhide HD _).mono ?_
        rintro e W1 ⟨rfl, rfl⟩
        go_wp2_with fail
        refine (unhide HT _ (unhide hx1)).mono ?_
        rintro e W1 ⟨rfl, rfl⟩
        go_wp2_with fail
        refine (unhide HL _).mono ?_
        rintro e W1 ⟨rfl, rfl⟩
        go_wp2
        go_ret
        exact ⟨rfl, by rw [← unhide hzz, if_neg (by decide)]; exact unhide hx1, hw⟩
      | false =>
        obtain rfl : b = true := by rw [hnb]; rfl
        clear hnb
        go_wp2_with fail
        refine (unhide HD _).mono ?_
        rintro e W1 ⟨rfl, rfl⟩
        go_wp2_with fail
        refine (unhide HT _ (unhide hx1)).mono ?_
        rintro e W1 ⟨rfl, rfl⟩
        go_wp2_with fail
        refine (unhide HL _).mono ?_
        rintro e W1 ⟨rfl, rfl⟩
        go_wp2_with fail
        refine (unhide HA _ (unhide hx1)).mono ?_
        rintro e W2 ⟨rfl, hst, hw1⟩
        replace hw := hw.trans hw1
        clear hw1 x0 x1 x2 x3 x4
        replace hst := hide hst
        go_wp2
        go_ret
        exact ⟨rfl, by rw [← unhide hzz, if_pos (by trivial)]; exact unhide hst, hw⟩
    · have hts' : ¬ (t : Int) < s.size := by omega
      obtain rfl : b = true := by rw [hnb, decide_eq_false hts]; rfl
      clear hnb
      go_wp2_with fail
      refine (unhide HD _).mono ?_
      rintro e W1 ⟨rfl, rfl⟩
      go_wp2_with fail
      refine (unhide HT _ (unhide hx1)).mono ?_
      rintro e W1 ⟨rfl, rfl⟩
      go_wp2_with fail
      refine (unhide HA _ (unhide hx1)).mono ?_
      rintro e W2 ⟨rfl, hst, hw1⟩
      replace hw := hw.trans hw1
      clear hw1 x0 x1 x2 x3 x4
      replace hst := hide hst
      go_wp2
      go_ret
      exact ⟨rfl, by rw [← unhide hzz, if_pos (by trivial)]; exact unhide hst, hw⟩
end Go.Proofs.Ytmhkmmcicfpakaa

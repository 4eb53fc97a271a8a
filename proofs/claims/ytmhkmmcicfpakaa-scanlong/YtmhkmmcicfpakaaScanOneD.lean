/-
  The reference's scanner.one: a name or a key.
-/
import Derived.Test.YtmhkmmcicfpakaaScanCom
import Derived.Test.YtmhkmmcicfpakaaScanAdd
import Derived.Test.YtmhkmmcicfpakaaScanTo
namespace Go.Proofs.Ytmhkmmcicfpakaa
open Go.RowKit
set_option linter.unusedSimpArgs false
set_option linter.unusedVariables false
set_option maxHeartbeats 4000000 in
set_option maxRecDepth 100000 in
theorem one_word (w : World) (base g : Nat) (s : ByteArray) (x : Sc) (hx : ScSt w base g s x) (hp : x.p < s.size) (hs : s.size ≤ 1000000) (hl : x.l.length ≤ 900000) (hd : digB (byteAt s x.p) = false) (hlt : letB (byteAt s x.p) = true) :
    Calls Try.prog 23 #[.pointer (some ⟨g, 0, none⟩)] w fun e w' => e = .returned (.bool (decide (toN s true x.p - x.p ≤ 24))) ∧ ScSt w' base g s (if toN s true x.p - x.p ≤ 24 then x.add s (if isKey (s.extract x.p (toN s true x.p)) then 5 else 1) (toN s true x.p) else x) ∧ Below base w w' := by
  have hr := toN_range (s := s) (wd := true) (a := x.p) (by omega)
  have HA := fun (w : World) (h : ScSt w base g s x) (k : Int) => scAdd_any w base g s x k (toN s true x.p) h (by omega) (by omega) (by omega)
  have HT := fun (w : World) (h : ScSt w base g s x) => scTo_any w base g s x x.p true h (by omega) hs
  have HD := fun w => rDigit_any (byteAt s x.p) w (byteAt_lt s x.p)
  have HL := fun w => rLetter_any (byteAt s x.p) w (byteAt_lt s x.p)
  have HK := fun w => rKey_any (s.extract x.p (toN s true x.p)) w
  rw [hd] at HD
  rw [hlt] at HL
  generalize isKey (s.extract x.p (toN s true x.p)) = kb at *
  generalize hfun : (fun k : Int => x.add s k (toN s true x.p)) = F at *
  have hF : ∀ k, x.add s k (toN s true x.p) = F k := fun k => by rw [← hfun]
  simp only [hF] at HA ⊢
  clear hfun hF
  generalize toN s true x.p = t at *
  have hbl := byteAt_lt s x.p
  have hd2 := (let_iff _).1 hlt
  replace HA := hide HA
  replace HT := hide HT
  replace HD := hide HD
  replace HL := hide HL
  replace HK := hide HK
  clear hd hlt
  have hsc : ∀ W2 : World, ∀ W : World, ScSt W base g s x → Below W.heap.size W W2 → ScSt W2 base g s x := fun W2 W h hb => h.below hb
  replace hsc := hide hsc
  obtain ⟨zz, hzz⟩ : ∃ zz, (if t - x.p ≤ 24 then F (if kb then 5 else 1) else x) = zz := ⟨_, rfl⟩
  rw [hzz]
  replace hzz := hide hzz
  obtain ⟨vl, vc, h0, h1, h2, h3⟩ := id hx
  obtain ⟨p, line, l, c⟩ := x
  dsimp only at *
  have hS : w.drew.heap[g]? = some (scObj s p line vl vc) := h0
  have hw : Below base w w.drew := (Below.refl _ _).drew
  have hx1 : ScSt w.drew base g s ⟨p, line, l, c⟩ := hx
  have hik : ∀ h, (s[p]'h).toNat = byteAt s p := fun h => byteAt_idx s p h
  replace hx1 := hide hx1
  clear hx h0 h1 h2
  have n32 : ¬ ((byteAt s p : Nat) : Int) = 32 := by omega
  have m32 : (((byteAt s p : Nat) : Int) == 32) = false := beq_eq_false_iff_ne.2 n32
  have n9 : ¬ ((byteAt s p : Nat) : Int) = 9 := by omega
  have m9 : (((byteAt s p : Nat) : Int) == 9) = false := beq_eq_false_iff_ne.2 n9
  have n10 : ¬ ((byteAt s p : Nat) : Int) = 10 := by omega
  have m10 : (((byteAt s p : Nat) : Int) == 10) = false := beq_eq_false_iff_ne.2 n10
  have n59 : ¬ ((byteAt s p : Nat) : Int) = 59 := by omega
  have m59 : (((byteAt s p : Nat) : Int) == 59) = false := beq_eq_false_iff_ne.2 n59
  have n47 : ¬ ((byteAt s p : Nat) : Int) = 47 := by omega
  have m47 : (((byteAt s p : Nat) : Int) == 47) = false := beq_eq_false_iff_ne.2 n47
  have n34 : ¬ ((byteAt s p : Nat) : Int) = 34 := by omega
  have m34 : (((byteAt s p : Nat) : Int) == 34) = false := beq_eq_false_iff_ne.2 n34
  generalize byteAt s p = c0 at *
  by_cases h24 : t - p ≤ 24
  · rw [decide_eq_true h24]
    have h24' : ¬ (24 : Int) < (t : Int) - p := by omega
    go_enter Try.func23, Try.ntmps23
    go_upto_region 1 with fail
    refine wp_region_held_drew (S := fun w' => w'.heap[g]? = some (scObj s p line vl vc)) (by kernel_rfl) hS (fun _ => ?_)
    generalize World.drew w = W at hS hw hx1 ⊢
    refine wpAnyH_take (i := 0) (v := .pointer (some ⟨g, 0, none⟩)) rfl (by kernel_rfl) (by kernel_rfl) (by kernel_rfl) (fun _ _ _ h => h) (Or.inl ⟨by kernel_rfl, ?_⟩) hS ?_
    · intro w hSw; go_simp
    try simp only [List.getElem_toArray, List.getElem_cons_succ, List.getElem_cons_zero, Act.put, List.setIfInBounds_toArray, List.set_cons_zero, List.set_cons_succ]
    refine wpAnyH_take (i := 1) (v := .pointer (some ⟨g, 0, none⟩)) rfl (by kernel_rfl) (by kernel_rfl) (by kernel_rfl) (fun _ _ _ h => h) (Or.inl ⟨by kernel_rfl, ?_⟩) hS ?_
    · intro w hSw; go_simp
    try simp only [List.getElem_toArray, List.getElem_cons_succ, List.getElem_cons_zero, Act.put, List.setIfInBounds_toArray, List.set_cons_zero, List.set_cons_succ]
    refine wpAnyH_take (i := 2) (v := .pointer (some ⟨g, 0, none⟩)) rfl (by kernel_rfl) (by kernel_rfl) (by kernel_rfl) (fun _ _ _ h => h) (Or.inl ⟨by kernel_rfl, ?_⟩) hS ?_
    · intro w hSw; go_simp
    try simp only [List.getElem_toArray, List.getElem_cons_succ, List.getElem_cons_zero, Act.put, List.setIfInBounds_toArray, List.set_cons_zero, List.set_cons_succ]
    refine wpAnyH_take (i := 3) (v := .string s) rfl (by kernel_rfl) (by kernel_rfl) (by kernel_rfl) (fun _ _ _ h => h) (Or.inl ⟨by kernel_rfl, ?_⟩) hS ?_
    · intro w hSw; obtain ⟨x0, x1, x2, x3, x4⟩ := scCells hSw; go_simp
    try simp only [List.getElem_toArray, List.getElem_cons_succ, List.getElem_cons_zero, Act.put, List.setIfInBounds_toArray, List.set_cons_zero, List.set_cons_succ]
    refine wpAnyH_take (i := 4) (v := .pointer (some ⟨g, 0, none⟩)) rfl (by kernel_rfl) (by kernel_rfl) (by kernel_rfl) (fun _ _ _ h => h) (Or.inl ⟨by kernel_rfl, ?_⟩) hS ?_
    · intro w hSw; go_simp
    try simp only [List.getElem_toArray, List.getElem_cons_succ, List.getElem_cons_zero, Act.put, List.setIfInBounds_toArray, List.set_cons_zero, List.set_cons_succ]
    refine wpAnyH_take (i := 5) (v := .pointer (some ⟨g, 0, none⟩)) rfl (by kernel_rfl) (by kernel_rfl) (by kernel_rfl) (fun _ _ _ h => h) (Or.inl ⟨by kernel_rfl, ?_⟩) hS ?_
    · intro w hSw; go_simp
    try simp only [List.getElem_toArray, List.getElem_cons_succ, List.getElem_cons_zero, Act.put, List.setIfInBounds_toArray, List.set_cons_zero, List.set_cons_succ]
    refine wpAnyH_take (i := 6) (v := .pointer (some ⟨g, 1, none⟩)) rfl (by kernel_rfl) (by kernel_rfl) (by kernel_rfl) (fun _ _ _ h => h) (Or.inl ⟨by kernel_rfl, ?_⟩) hS ?_
    · intro w hSw; go_simp
    try simp only [List.getElem_toArray, List.getElem_cons_succ, List.getElem_cons_zero, Act.put, List.setIfInBounds_toArray, List.set_cons_zero, List.set_cons_succ]
    refine wpAnyH_take (i := 7) (v := .int .i64 p) rfl (by kernel_rfl) (by kernel_rfl) (by kernel_rfl) (fun _ _ _ h => h) (Or.inl ⟨by kernel_rfl, ?_⟩) hS ?_
    · intro w hSw; obtain ⟨x0, x1, x2, x3, x4⟩ := scCells hSw; go_simp
    try simp only [List.getElem_toArray, List.getElem_cons_succ, List.getElem_cons_zero, Act.put, List.setIfInBounds_toArray, List.set_cons_zero, List.set_cons_succ]
    refine wpAnyH_take (i := 8) (v := .int .u8 c0) rfl (by kernel_rfl) (by kernel_rfl) (by kernel_rfl) (fun _ _ _ h => h) (Or.inl ⟨by kernel_rfl, ?_⟩) hS ?_
    · intro w hSw; go_simp
    try simp only [List.getElem_toArray, List.getElem_cons_succ, List.getElem_cons_zero, Act.put, List.setIfInBounds_toArray, List.set_cons_zero, List.set_cons_succ]
    refine wpAnyH_take (i := 9) (v := .int .u8 c0) rfl (by kernel_rfl) (by kernel_rfl) (by kernel_rfl) (fun _ _ _ h => h) (Or.inl ⟨by kernel_rfl, ?_⟩) hS ?_
    · intro w hSw; go_simp
    try simp only [List.getElem_toArray, List.getElem_cons_succ, List.getElem_cons_zero, Act.put, List.setIfInBounds_toArray, List.set_cons_zero, List.set_cons_succ]
    refine wpAnyH_done (by kernel_rfl) ?_ _
    obtain ⟨x0, x1, x2, x3, x4⟩ := scCells hS
    replace hS := hide hS
    go_wp2_with fail
    refine (unhide HD _).mono ?_
    rintro e W1 ⟨rfl, rfl⟩
    go_wp2_with fail
    refine (unhide HL _).mono ?_
    rintro e W1 ⟨rfl, rfl⟩
    go_wp2_with fail
    refine (unhide HT _ (unhide hx1)).mono ?_
    rintro e W ⟨rfl, rfl⟩
    go_upto_region 36 with fail
    clear x0 x1 x2 x3 x4
    replace hS := unhide hS
    have hS : W.drew.heap[g]? = some (scObj s p line vl vc) := hS
    replace hw : Below base w W.drew := hw.drew
    have hx2 : ScSt W.drew base g s ⟨p, line, l, c⟩ := unhide hx1
    replace hx2 := hide hx2
    clear hx1
    refine wp_region_held_drew (S := fun w' => w'.heap[g]? = some (scObj s p line vl vc)) (by kernel_rfl) hS (fun _ => ?_)
    generalize World.drew W = W5 at hS hw hx2 ⊢
    refine wpAnyH_take (i := 0) (v := .pointer (some ⟨g, 0, none⟩)) rfl (by kernel_rfl) (by kernel_rfl) (by kernel_rfl) (fun _ _ _ h => h) (Or.inl ⟨by kernel_rfl, ?_⟩) hS ?_
    · intro w hSw; go_simp
    try simp only [List.getElem_toArray, List.getElem_cons_succ, List.getElem_cons_zero, Act.put, List.setIfInBounds_toArray, List.set_cons_zero, List.set_cons_succ]
    refine wpAnyH_take (i := 1) (v := .pointer (some ⟨g, 0, none⟩)) rfl (by kernel_rfl) (by kernel_rfl) (by kernel_rfl) (fun _ _ _ h => h) (Or.inl ⟨by kernel_rfl, ?_⟩) hS ?_
    · intro w hSw; go_simp
    try simp only [List.getElem_toArray, List.getElem_cons_succ, List.getElem_cons_zero, Act.put, List.setIfInBounds_toArray, List.set_cons_zero, List.set_cons_succ]
    refine wpAnyH_take (i := 2) (v := .pointer (some ⟨g, 0, none⟩)) rfl (by kernel_rfl) (by kernel_rfl) (by kernel_rfl) (fun _ _ _ h => h) (Or.inl ⟨by kernel_rfl, ?_⟩) hS ?_
    · intro w hSw; go_simp
    try simp only [List.getElem_toArray, List.getElem_cons_succ, List.getElem_cons_zero, Act.put, List.setIfInBounds_toArray, List.set_cons_zero, List.set_cons_succ]
    refine wpAnyH_take (i := 3) (v := .string s) rfl (by kernel_rfl) (by kernel_rfl) (by kernel_rfl) (fun _ _ _ h => h) (Or.inl ⟨by kernel_rfl, ?_⟩) hS ?_
    · intro w hSw; obtain ⟨x0, x1, x2, x3, x4⟩ := scCells hSw; go_simp
    try simp only [List.getElem_toArray, List.getElem_cons_succ, List.getElem_cons_zero, Act.put, List.setIfInBounds_toArray, List.set_cons_zero, List.set_cons_succ]
    refine wpAnyH_take (i := 4) (v := .pointer (some ⟨g, 0, none⟩)) rfl (by kernel_rfl) (by kernel_rfl) (by kernel_rfl) (fun _ _ _ h => h) (Or.inl ⟨by kernel_rfl, ?_⟩) hS ?_
    · intro w hSw; go_simp
    try simp only [List.getElem_toArray, List.getElem_cons_succ, List.getElem_cons_zero, Act.put, List.setIfInBounds_toArray, List.set_cons_zero, List.set_cons_succ]
    refine wpAnyH_take (i := 5) (v := .pointer (some ⟨g, 0, none⟩)) rfl (by kernel_rfl) (by kernel_rfl) (by kernel_rfl) (fun _ _ _ h => h) (Or.inl ⟨by kernel_rfl, ?_⟩) hS ?_
    · intro w hSw; go_simp
    try simp only [List.getElem_toArray, List.getElem_cons_succ, List.getElem_cons_zero, Act.put, List.setIfInBounds_toArray, List.set_cons_zero, List.set_cons_succ]
    refine wpAnyH_take (i := 6) (v := .pointer (some ⟨g, 1, none⟩)) rfl (by kernel_rfl) (by kernel_rfl) (by kernel_rfl) (fun _ _ _ h => h) (Or.inl ⟨by kernel_rfl, ?_⟩) hS ?_
    · intro w hSw; go_simp
    try simp only [List.getElem_toArray, List.getElem_cons_succ, List.getElem_cons_zero, Act.put, List.setIfInBounds_toArray, List.set_cons_zero, List.set_cons_succ]
    refine wpAnyH_take (i := 7) (v := .int .i64 p) rfl (by kernel_rfl) (by kernel_rfl) (by kernel_rfl) (fun _ _ _ h => h) (Or.inl ⟨by kernel_rfl, ?_⟩) hS ?_
    · intro w hSw; obtain ⟨x0, x1, x2, x3, x4⟩ := scCells hSw; go_simp
    try simp only [List.getElem_toArray, List.getElem_cons_succ, List.getElem_cons_zero, Act.put, List.setIfInBounds_toArray, List.set_cons_zero, List.set_cons_succ]
    refine wpAnyH_take (i := 8) (v := .int .i64 t) rfl (by kernel_rfl) (by kernel_rfl) (by kernel_rfl) (fun _ _ _ h => h) (Or.inl ⟨by kernel_rfl, ?_⟩) hS ?_
    · intro w hSw; go_simp
    try simp only [List.getElem_toArray, List.getElem_cons_succ, List.getElem_cons_zero, Act.put, List.setIfInBounds_toArray, List.set_cons_zero, List.set_cons_succ]
    refine wpAnyH_take (i := 9) (v := .string (s.extract p t)) rfl (by kernel_rfl) (by kernel_rfl) (by kernel_rfl) (fun _ _ _ h => h) (Or.inl ⟨by kernel_rfl, ?_⟩) hS ?_
    · intro w hSw; go_simp
    try simp only [List.getElem_toArray, List.getElem_cons_succ, List.getElem_cons_zero, Act.put, List.setIfInBounds_toArray, List.set_cons_zero, List.set_cons_succ]
    refine wpAnyH_ready (rs := [10]) (by kernel_rfl) (by simp) ?_
    refine AllReadyH.cons rfl (fun K hK => ?_) AllReadyH.nil
    go_simp
    refine (unhide HK _).mono ?_
    rintro e W6 ⟨rfl, hb⟩
    have hx3 := unhide hsc _ _ (unhide hx2) hb
    have hS6 : W6.heap[g]? = some (scObj s p line vl vc) := (hb.block g (Array.getElem?_eq_some_iff.1 hS).1).trans hS
    replace hw := hw.trans (hb.mono (Nat.le_trans h3 (Nat.le_of_lt (Array.getElem?_eq_some_iff.1 hS).1)))
    refine hK.out _ _ hS6 (fun _ => ?_)
    clear hK K hb hx2 hS
    try simp only [List.getElem_toArray, List.getElem_cons_succ, List.getElem_cons_zero, Act.put, List.setIfInBounds_toArray, List.set_cons_zero, List.set_cons_succ]
    refine wpAnyH_done (by kernel_rfl) ?_ _
    replace hx3 := hide hx3
    clear hS6
    cases kb with
    | true =>
      go_wp2_with fail
      refine (unhide HA _ (unhide hx3) 5).mono ?_
      rintro e W7 ⟨rfl, hst, hw1⟩
      replace hw := hw.trans hw1
      clear hw1
      replace hst := hide hst
      go_wp2
      go_ret
      exact ⟨rfl, by rw [← unhide hzz, if_pos h24]; exact unhide hst, hw⟩
    | false =>
      go_wp2_with fail
      refine (unhide HA _ (unhide hx3) 1).mono ?_
      rintro e W7 ⟨rfl, hst, hw1⟩
      replace hw := hw.trans hw1
      clear hw1
      replace hst := hide hst
      go_wp2
      go_ret
      exact ⟨rfl, by rw [← unhide hzz, if_pos h24]; exact unhide hst, hw⟩
  · rw [decide_eq_false h24]
    have h24' : (24 : Int) < (t : Int) - p := by omega
    go_enter Try.func23, Try.ntmps23
    go_upto_region 1 with fail
    refine wp_region_held_drew (S := fun w' => w'.heap[g]? = some (scObj s p line vl vc)) (by kernel_rfl) hS (fun _ => ?_)
    generalize World.drew w = W at hS hw hx1 ⊢
    refine wpAnyH_take (i := 0) (v := .pointer (some ⟨g, 0, none⟩)) rfl (by kernel_rfl) (by kernel_rfl) (by kernel_rfl) (fun _ _ _ h => h) (Or.inl ⟨by kernel_rfl, ?_⟩) hS ?_
    · intro w hSw; go_simp
    try simp only [List.getElem_toArray, List.getElem_cons_succ, List.getElem_cons_zero, Act.put, List.setIfInBounds_toArray, List.set_cons_zero, List.set_cons_succ]
    refine wpAnyH_take (i := 1) (v := .pointer (some ⟨g, 0, none⟩)) rfl (by kernel_rfl) (by kernel_rfl) (by kernel_rfl) (fun _ _ _ h => h) (Or.inl ⟨by kernel_rfl, ?_⟩) hS ?_
    · intro w hSw; go_simp
    try simp only [List.getElem_toArray, List.getElem_cons_succ, List.getElem_cons_zero, Act.put, List.setIfInBounds_toArray, List.set_cons_zero, List.set_cons_succ]
    refine wpAnyH_take (i := 2) (v := .pointer (some ⟨g, 0, none⟩)) rfl (by kernel_rfl) (by kernel_rfl) (by kernel_rfl) (fun _ _ _ h => h) (Or.inl ⟨by kernel_rfl, ?_⟩) hS ?_
    · intro w hSw; go_simp
    try simp only [List.getElem_toArray, List.getElem_cons_succ, List.getElem_cons_zero, Act.put, List.setIfInBounds_toArray, List.set_cons_zero, List.set_cons_succ]
    refine wpAnyH_take (i := 3) (v := .string s) rfl (by kernel_rfl) (by kernel_rfl) (by kernel_rfl) (fun _ _ _ h => h) (Or.inl ⟨by kernel_rfl, ?_⟩) hS ?_
    · intro w hSw; obtain ⟨x0, x1, x2, x3, x4⟩ := scCells hSw; go_simp
    try simp only [List.getElem_toArray, List.getElem_cons_succ, List.getElem_cons_zero, Act.put, List.setIfInBounds_toArray, List.set_cons_zero, List.set_cons_succ]
    refine wpAnyH_take (i := 4) (v := .pointer (some ⟨g, 0, none⟩)) rfl (by kernel_rfl) (by kernel_rfl) (by kernel_rfl) (fun _ _ _ h => h) (Or.inl ⟨by kernel_rfl, ?_⟩) hS ?_
    · intro w hSw; go_simp
    try simp only [List.getElem_toArray, List.getElem_cons_succ, List.getElem_cons_zero, Act.put, List.setIfInBounds_toArray, List.set_cons_zero, List.set_cons_succ]
    refine wpAnyH_take (i := 5) (v := .pointer (some ⟨g, 0, none⟩)) rfl (by kernel_rfl) (by kernel_rfl) (by kernel_rfl) (fun _ _ _ h => h) (Or.inl ⟨by kernel_rfl, ?_⟩) hS ?_
    · intro w hSw; go_simp
    try simp only [List.getElem_toArray, List.getElem_cons_succ, List.getElem_cons_zero, Act.put, List.setIfInBounds_toArray, List.set_cons_zero, List.set_cons_succ]
    refine wpAnyH_take (i := 6) (v := .pointer (some ⟨g, 1, none⟩)) rfl (by kernel_rfl) (by kernel_rfl) (by kernel_rfl) (fun _ _ _ h => h) (Or.inl ⟨by kernel_rfl, ?_⟩) hS ?_
    · intro w hSw; go_simp
    try simp only [List.getElem_toArray, List.getElem_cons_succ, List.getElem_cons_zero, Act.put, List.setIfInBounds_toArray, List.set_cons_zero, List.set_cons_succ]
    refine wpAnyH_take (i := 7) (v := .int .i64 p) rfl (by kernel_rfl) (by kernel_rfl) (by kernel_rfl) (fun _ _ _ h => h) (Or.inl ⟨by kernel_rfl, ?_⟩) hS ?_
    · intro w hSw; obtain ⟨x0, x1, x2, x3, x4⟩ := scCells hSw; go_simp
    try simp only [List.getElem_toArray, List.getElem_cons_succ, List.getElem_cons_zero, Act.put, List.setIfInBounds_toArray, List.set_cons_zero, List.set_cons_succ]
    refine wpAnyH_take (i := 8) (v := .int .u8 c0) rfl (by kernel_rfl) (by kernel_rfl) (by kernel_rfl) (fun _ _ _ h => h) (Or.inl ⟨by kernel_rfl, ?_⟩) hS ?_
    · intro w hSw; go_simp
    try simp only [List.getElem_toArray, List.getElem_cons_succ, List.getElem_cons_zero, Act.put, List.setIfInBounds_toArray, List.set_cons_zero, List.set_cons_succ]
    refine wpAnyH_take (i := 9) (v := .int .u8 c0) rfl (by kernel_rfl) (by kernel_rfl) (by kernel_rfl) (fun _ _ _ h => h) (Or.inl ⟨by kernel_rfl, ?_⟩) hS ?_
    · intro w hSw; go_simp
    try simp only [List.getElem_toArray, List.getElem_cons_succ, List.getElem_cons_zero, Act.put, List.setIfInBounds_toArray, List.set_cons_zero, List.set_cons_succ]
    refine wpAnyH_done (by kernel_rfl) ?_ _
    obtain ⟨x0, x1, x2, x3, x4⟩ := scCells hS
    clear hS
    go_wp2_with fail
    refine (unhide HD _).mono ?_
    rintro e W1 ⟨rfl, rfl⟩
    go_wp2_with fail
    refine (unhide HL _).mono ?_
    rintro e W1 ⟨rfl, rfl⟩
    go_wp2_with fail
    refine (unhide HT _ (unhide hx1)).mono ?_
    rintro e W ⟨rfl, rfl⟩
    go_wp2
    go_ret
    exact ⟨rfl, by rw [← unhide hzz, if_neg h24]; exact unhide hx1, hw⟩
end Go.Proofs.Ytmhkmmcicfpakaa

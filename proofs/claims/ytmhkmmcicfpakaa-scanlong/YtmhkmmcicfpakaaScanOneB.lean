/-
  The reference's scanner.one: a string.
-/
import Derived.Test.YtmhkmmcicfpakaaScanCom
import Derived.Test.YtmhkmmcicfpakaaScanAdd
import Derived.Test.YtmhkmmcicfpakaaScanTo
namespace Go.Proofs.Ytmhkmmcicfpakaa
open Go.RowKit
set_option linter.unusedSimpArgs false
set_option linter.unusedVariables false
def qF (s : ByteArray) : Nat → Nat → Nat
  | 0, a => a
  | f + 1, a => if a < s.size ∧ byteAt s a ≠ 34 ∧ byteAt s a ≠ 10 then qF s f (a + 1) else a
/-- The first quote or newline from a on, or the end. -/
def qN (s : ByteArray) (a : Nat) : Nat := qF s (s.size - a) a
theorem qN_step {s : ByteArray} {a : Nat} (h : a < s.size) (hc : byteAt s a ≠ 34) (hd : byteAt s a ≠ 10) : qN s a = qN s (a + 1) := by
  unfold qN
  obtain ⟨k, hk⟩ : ∃ k, s.size - a = k + 1 := ⟨s.size - a - 1, by omega⟩
  rw [hk, show s.size - (a + 1) = k by omega, qF, if_pos ⟨h, hc, hd⟩]
theorem qN_stop {s : ByteArray} {a : Nat} (hc : byteAt s a = 34 ∨ byteAt s a = 10) : qN s a = a := by
  unfold qN
  cases s.size - a with
  | zero => rfl
  | succ k => rw [qF, if_neg (fun h => by rcases hc with hc | hc; exact h.2.1 hc; exact h.2.2 hc)]
theorem qN_end {s : ByteArray} {a : Nat} (h : s.size ≤ a) : qN s a = a := by
  unfold qN
  rw [show s.size - a = 0 by omega, qF]
theorem qF_ge (s : ByteArray) : ∀ (f a : Nat), a ≤ qF s f a := by
  intro f
  induction f with
  | zero => intro a; exact Nat.le_refl _
  | succ f ih =>
    intro a
    rw [qF]
    split
    · have := ih (a + 1); omega
    · omega
theorem qN_ge (s : ByteArray) (a : Nat) : a ≤ qN s a := qF_ge s _ a
/-- A string is shut. -/
def strB (s : ByteArray) (p : Nat) : Bool := decide (qN s (p + 1) < s.size) && decide (byteAt s (qN s (p + 1)) = 34)
theorem strB_at {s : ByteArray} {p k : Nat} (h : qN s (p + 1) = k) : strB s p = (decide (k < s.size) && decide (byteAt s k = 34)) := by rw [strB, h]
set_option maxHeartbeats 4000000 in
set_option maxRecDepth 100000 in
theorem one_str (w : World) (base g : Nat) (s : ByteArray) (x : Sc) (hx : ScSt w base g s x) (hp : x.p < s.size) (hs : s.size ≤ 1000000) (hl : x.l.length ≤ 900000) (hb : byteAt s x.p = 34) :
    Calls Try.prog 23 #[.pointer (some ⟨g, 0, none⟩)] w fun e w' => e = .returned (.bool (strB s x.p)) ∧ ScSt w' base g s (if strB s x.p then x.add s 3 (qN s (x.p + 1) + 1) else x) ∧ Below base w w' := by
  have HA := fun (w : World) (h : ScSt w base g s x) (k : Nat) (hk : x.p ≤ k) (hk2 : k + 1 ≤ s.size) => scAdd_any w base g s x 3 (k + 1) h (by omega) hk2 (by omega)
  have hat := fun k => strB_at (s := s) (p := x.p) (k := k)
  have hadd : ∀ k, x.add s 3 k = x.add s 3 k := fun _ => rfl
  generalize hfun : (fun k => x.add s 3 k) = F at *
  have hF : ∀ k, x.add s 3 k = F k := fun k => by rw [← hfun]
  simp only [hF] at HA ⊢
  clear hadd hfun hF
  replace HA := hide HA
  generalize hq : qN s (x.p + 1) = q at *
  generalize strB s x.p = b at *
  replace hat := hide hat
  obtain ⟨zz, hzz⟩ : ∃ zz, (if b then F (q + 1) else x) = zz := ⟨_, rfl⟩
  rw [hzz]
  replace hzz := hide hzz
  obtain ⟨vl, vc, h0, h1, h2, h3⟩ := id hx
  obtain ⟨p, line, l, c⟩ := x
  dsimp only at *
  have hS : w.drew.heap[g]? = some (scObj s p line vl vc) := h0
  have hw : Below base w w.drew := (Below.refl _ _).drew
  have hx1 : ScSt w.drew base g s ⟨p, line, l, c⟩ := hx
  have hik : ∀ h, (s[p]'h).toNat = byteAt s p := fun h => byteAt_idx s p h
  replace hx1 := hide hx1
  clear hx h0 h1 h2
  rw [hb] at hik
  go_enter Try.func23, Try.ntmps23
  go_upto_region 1 with fail
  refine wp_region_held_drew (S := fun w' => w'.heap[g]? = some (scObj s p line vl vc)) (by kernel_rfl) hS (fun _ => ?_)
  generalize World.drew w = W at hS hw hx1 ⊢
  refine wpAnyH_take (i := 0) (v := .pointer (some ⟨g, 0, none⟩)) rfl (by kernel_rfl) (by kernel_rfl) (by kernel_rfl) (fun _ _ _ h => h) (Or.inl ⟨by kernel_rfl, ?_⟩) hS ?_
  · intro w hSw; go_simp
  try simp only [List.getElem_toArray, List.getElem_cons_succ, List.getElem_cons_zero, Act.put, List.setIfInBounds_toArray, List.set_cons_zero, List.set_cons_succ]
  refine wpAnyH_take (i := 1) (v := .pointer (some ⟨g, 0, none⟩)) rfl (by kernel_rfl) (by kernel_rfl) (by kernel_rfl) (fun _ _ _ h => h) (Or.inl ⟨by kernel_rfl, ?_⟩) hS ?_
  · intro w hSw; go_simp
  try simp only [List.getElem_toArray, List.getElem_cons_succ, List.getElem_cons_zero, Act.put, List.setIfInBounds_toArray, List.set_cons_zero, List.set_cons_succ]
  refine wpAnyH_take (i := 2) (v := .pointer (some ⟨g, 0, none⟩)) rfl (by kernel_rfl) (by kernel_rfl) (by kernel_rfl) (fun _ _ _ h => h) (Or.inl ⟨by kernel_rfl, ?_⟩) hS ?_
  · intro w hSw; go_simp
  try simp only [List.getElem_toArray, List.getElem_cons_succ, List.getElem_cons_zero, Act.put, List.setIfInBounds_toArray, List.set_cons_zero, List.set_cons_succ]
  refine wpAnyH_take (i := 3) (v := .string s) rfl (by kernel_rfl) (by kernel_rfl) (by kernel_rfl) (fun _ _ _ h => h) (Or.inl ⟨by kernel_rfl, ?_⟩) hS ?_
  · intro w hSw; obtain ⟨x0, x1, x2, x3, x4⟩ := scCells hSw; go_simp
  try simp only [List.getElem_toArray, List.getElem_cons_succ, List.getElem_cons_zero, Act.put, List.setIfInBounds_toArray, List.set_cons_zero, List.set_cons_succ]
  refine wpAnyH_take (i := 4) (v := .pointer (some ⟨g, 0, none⟩)) rfl (by kernel_rfl) (by kernel_rfl) (by kernel_rfl) (fun _ _ _ h => h) (Or.inl ⟨by kernel_rfl, ?_⟩) hS ?_
  · intro w hSw; go_simp
  try simp only [List.getElem_toArray, List.getElem_cons_succ, List.getElem_cons_zero, Act.put, List.setIfInBounds_toArray, List.set_cons_zero, List.set_cons_succ]
  refine wpAnyH_take (i := 5) (v := .pointer (some ⟨g, 0, none⟩)) rfl (by kernel_rfl) (by kernel_rfl) (by kernel_rfl) (fun _ _ _ h => h) (Or.inl ⟨by kernel_rfl, ?_⟩) hS ?_
  · intro w hSw; go_simp
  try simp only [List.getElem_toArray, List.getElem_cons_succ, List.getElem_cons_zero, Act.put, List.setIfInBounds_toArray, List.set_cons_zero, List.set_cons_succ]
  refine wpAnyH_take (i := 6) (v := .pointer (some ⟨g, 1, none⟩)) rfl (by kernel_rfl) (by kernel_rfl) (by kernel_rfl) (fun _ _ _ h => h) (Or.inl ⟨by kernel_rfl, ?_⟩) hS ?_
  · intro w hSw; go_simp
  try simp only [List.getElem_toArray, List.getElem_cons_succ, List.getElem_cons_zero, Act.put, List.setIfInBounds_toArray, List.set_cons_zero, List.set_cons_succ]
  refine wpAnyH_take (i := 7) (v := .int .i64 p) rfl (by kernel_rfl) (by kernel_rfl) (by kernel_rfl) (fun _ _ _ h => h) (Or.inl ⟨by kernel_rfl, ?_⟩) hS ?_
  · intro w hSw; obtain ⟨x0, x1, x2, x3, x4⟩ := scCells hSw; go_simp
  try simp only [List.getElem_toArray, List.getElem_cons_succ, List.getElem_cons_zero, Act.put, List.setIfInBounds_toArray, List.set_cons_zero, List.set_cons_succ]
  refine wpAnyH_take (i := 8) (v := .int .u8 34) rfl (by kernel_rfl) (by kernel_rfl) (by kernel_rfl) (fun _ _ _ h => h) (Or.inl ⟨by kernel_rfl, ?_⟩) hS ?_
  · intro w hSw; go_simp
  try simp only [List.getElem_toArray, List.getElem_cons_succ, List.getElem_cons_zero, Act.put, List.setIfInBounds_toArray, List.set_cons_zero, List.set_cons_succ]
  refine wpAnyH_take (i := 9) (v := .int .u8 34) rfl (by kernel_rfl) (by kernel_rfl) (by kernel_rfl) (fun _ _ _ h => h) (Or.inl ⟨by kernel_rfl, ?_⟩) hS ?_
  · intro w hSw; go_simp
  try simp only [List.getElem_toArray, List.getElem_cons_succ, List.getElem_cons_zero, Act.put, List.setIfInBounds_toArray, List.set_cons_zero, List.set_cons_succ]
  refine wpAnyH_done (by kernel_rfl) ?_ _
  obtain ⟨x0, x1, x2, x3, x4⟩ := scCells hS
  clear hS
  go_wp2
  go_loopw [4] (fun ks wr => ∃ k : Nat, p + 1 ≤ k ∧ k ≤ s.size ∧ ks = .int .i64 k ∧ wr = W ∧ qN s k = q) (fun ks _ => s.size - (intOf ks).toNat)
  case atStart => exact ⟨p + 1, by omega, by omega, by go_num, rfl, hq⟩
  case round =>
    obtain ⟨k, hk0, hk, rfl, rfl, hall⟩ := hrel
    by_cases hlt : k < s.size
    · have hik2 : ∀ h, (s[k]'h).toNat = byteAt s k := fun h => byteAt_idx s k h
      have hbl := byteAt_lt s k
      by_cases h34 : byteAt s k = 34
      · rw [qN_stop (.inl h34)] at hall
        obtain rfl : b = true := by rw [unhide hat k (hall.symm)]; simp [hlt, h34]
        subst hall
        rw [h34] at hik2
        clear hbl h34
        go_wp2_with fail
        refine (unhide HA _ (unhide hx1) k (by omega) (by omega)).mono ?_
        rintro e W1 ⟨rfl, hst, hw1⟩
        replace hw := hw.trans hw1
        clear hw1 x0 x1 x2 x3 x4
        replace hst := hide hst
        go_wp2
        go_ret
        exact ⟨rfl, by rw [← unhide hzz, if_pos (by trivial)]; exact unhide hst, hw⟩
      · by_cases h10 : byteAt s k = 10
        · rw [qN_stop (.inr h10)] at hall
          obtain rfl : b = false := by rw [unhide hat k (hall.symm)]; simp [h34]
          rw [h10] at hik2
          subst hall
          clear hbl h34 h10
          go_wp2
          go_ret
          exact ⟨rfl, by rw [← unhide hzz, if_neg (by decide)]; exact unhide hx1, hw⟩
        · have hst := qN_step hlt h34 h10
          rw [hst] at hall
          have n34 : ¬ ((byteAt s k : Nat) : Int) = 34 := by omega
          have n10 : ¬ ((byteAt s k : Nat) : Int) = 10 := by omega
          have m34 : (((byteAt s k : Nat) : Int) == 34) = false := beq_eq_false_iff_ne.2 n34
          have m10 : (((byteAt s k : Nat) : Int) == 10) = false := beq_eq_false_iff_ne.2 n10
          have e34 : (((byteAt s k : Nat) : Int) != 34) = true := by rw [bne, m34]; rfl
          have e10 : (((byteAt s k : Nat) : Int) != 10) = true := by rw [bne, m10]; rfl
          replace hall := hide hall
          clear hst h10 h34
          go_wp2
          go_roundw
          case rel => exact ⟨k + 1, by omega, by omega, by go_num, by trivial, unhide hall⟩
          case measure => simp [intOf]; omega
    · rw [qN_end (by omega)] at hall
      obtain rfl : b = false := by rw [unhide hat k (hall.symm)]; simp [hlt]
      subst hall
      obtain rfl : k = s.size := by omega
      go_wp2
      go_ret
      exact ⟨rfl, by rw [← unhide hzz, if_neg (by decide)]; exact unhide hx1, hw⟩
end Go.Proofs.Ytmhkmmcicfpakaa

/-
  The law's begun.
-/
import Derived.Test.YtpjpghigilbfaaaHpApi
import Derived.Test.YtpjpghigilbfaaaMgAll
namespace Go.Proofs.Ytpjpghigilbfaaa
open Go.RowKit Go.Lib Go.Sort
set_option linter.unusedSimpArgs false
set_option linter.unusedVariables false
def eD (p n : Int) : Ed := ⟨p, n, ⟨#[]⟩⟩
theorem que_new (w : World) : Que (w.alloc (.cells #[.slice none 0 0] 27 (0, 0))) w.heap.size (.slice none 0 0) [] :=
  ⟨heap_alloc_new _ _, ownE_nil _ _, fun k h1 h2 => absurd h2 (Nat.not_lt_zero _)⟩
theorem Que.own_ge {w : World} {b : Nat} {v : Value} {H : List Ed} (h : Que w b v H) : ∀ k, v.ownBlock = some k → b + 1 ≤ k := fun k hk => (World.ownsRow.lt h.2.1 k hk).1
theorem first_of {a b : Ed} {H : List Ed} (hp : H.Perm [a, b]) (hh : Heap H H.length) (hlt : ltE a b = true) : at0 H 0 = a := by
  obtain ⟨T, hT⟩ := heap_first (W := [a, b]) hh hp (List.pairwise_cons.2 ⟨fun x hx => by rw [List.mem_singleton] at hx; subst hx; exact ltE_asymm hlt, List.pairwise_singleton _ _⟩) (by rw [hp.length_eq]; simp)
  injection hT with h _
  exact h.symm
theorem once1 : once [eD 5 1, eD 2 1, eD 5 1] = [eD 2 1, eD 5 1] := by kernel_rfl
theorem once2 : once [eD 5 1, eD 6 1] = [eD 5 1, eD 6 1] := by kernel_rfl
theorem may1 : mayB [eD 2 1, eD 5 1] maxI = true := by kernel_rfl
theorem may2 : mayB [eD 5 1, eD 6 1] maxI = false := by kernel_rfl
theorem Que.below {w w' : World} {b : Nat} {v : Value} {H : List Ed} (h : Que w b v H) (hb : Below w.heap.size w w') : Que w' b v H := by
  refine ⟨?_, ?_, h.2.2⟩
  · unfold PileAt; rw [hb.block b h.1.lt]; exact h.1
  · rcases h.2.1.forms with ⟨rfl, rfl⟩ | ⟨g, cap, rfl, hg, hr⟩
    · exact ownE_nil _ _
    · exact (hr.below hb).own hg
theorem eds_lit (W : World) (L : List Ed) (hl : L.length ≤ 1000) : Eds (W.alloc (.cells (edsC L).toArray 29 (0, 0))) (.slice (some ⟨W.heap.size, 0, none⟩) L.length L.length) L :=
  own_eds (base := 0) (by
    have := World.ownsRow_lit (base := 0) (e := 29) (size := 3) W (edsC L).toArray L.length (Nat.zero_le _) (by unfold maxLen; omega) (by simp [edsC_len])
    simpa [OwnE] using this)
theorem edss_two (W : World) (A B : List Ed) (ha : A.length ≤ 1000) (hb : B.length ≤ 1000) :
    Edss (((W.alloc (.cells (edsC A).toArray 29 (0, 0))).alloc (.cells (edsC B).toArray 29 (0, 0))).alloc (.cells #[.slice (some ⟨W.heap.size, 0, none⟩) A.length A.length, .slice (some ⟨W.heap.size + 1, 0, none⟩) B.length B.length] 22 (0, 0))) (.slice (some ⟨W.heap.size + 2, 0, none⟩) 2 2) [A, B] := by
  have h1 := (eds_lit W A ha).below ((Below.refl _ _).alloc (Nat.le_refl _) (.cells (edsC B).toArray 29 (0, 0)))
  have h2 := eds_lit (W.alloc (.cells (edsC A).toArray 29 (0, 0))) B hb
  rw [show (W.alloc (.cells (edsC A).toArray 29 (0, 0))).heap.size = W.heap.size + 1 by simp] at h2
  generalize hX : (W.alloc (.cells (edsC A).toArray 29 (0, 0))).alloc (.cells (edsC B).toArray 29 (0, 0)) = X at *
  have hs : X.heap.size = W.heap.size + 2 := by rw [← hX]; simp
  refine ⟨_, 2, rfl, Nat.le_refl _, by unfold maxLen; omega, fun _ => ⟨W.heap.size + 2, 0, rfl, by simp [hs], fun i hi => ?_⟩⟩
  have hbl := (Below.refl X.heap.size X).alloc (Nat.le_refl _) (.cells #[.slice (some ⟨W.heap.size, 0, none⟩) A.length A.length, .slice (some ⟨W.heap.size + 1, 0, none⟩) B.length B.length] 22 (0, 0))
  match i, hi with
  | 0, _ => exact ⟨_, by rw [← hs, World.cell?_alloc_mark]; rfl, h1.below hbl, fun c h => by injection h with h; cases h⟩
  | 1, _ => exact ⟨_, by rw [← hs, World.cell?_alloc_mark]; rfl, h2.below hbl, fun c h => by injection h with h; cases h⟩
set_option maxHeartbeats 8000000 in
set_option maxRecDepth 100000 in
theorem begun_any (w : World) : Calls Try.prog 7 #[] w fun e w' => e = .returned (.bool true) ∧ Below w.heap.size w w' := by
  obtain ⟨b, hb⟩ : ∃ b, w.heap.size = b := ⟨_, rfl⟩
  obtain ⟨W0, hW0⟩ : ∃ W0, W0 = w.alloc (.cells #[.slice none 0 0] 27 (0, 0)) := ⟨_, rfl⟩
  have hq0 : Que W0 b (.slice none 0 0) [] := by rw [hW0, ← hb]; exact que_new w
  have hB0 : Below b w W0 := by rw [hW0]; exact (Below.refl _ _).alloc (by omega) _
  have hA1 := hide (qAdd_any b _ [] (eD 5 0) W0 hq0 (by simp))
  have hs0 := hide (show b ≤ W0.heap.size from Nat.le_of_lt hq0.1.lt)
  replace hq0 := hide hq0
  replace hB0 := hide hB0
  rw [hb]
  go_enter Try.func7, Try.ntmps7
  go_wp2_with fail
  rw [← hW0]
  refine (unhide hA1).mono ?_
  rintro x W1 ⟨rfl, v1, H1, hq1, hp1, hk1, ho1⟩
  have hB1 := hide ((unhide hB0).trans (hk1.below (Nat.le_refl b) (fun k hk => by cases hk) (unhide hs0)))
  have hl1 : H1.length = 1 := hp1.length_eq
  have hA2 := hide (qAdd_any b v1 H1 (eD 2 0) W1 hq1 (by omega))
  have hs1 := hide (show b ≤ W1.heap.size from Nat.le_of_lt hq1.1.lt)
  have hv1 := hide (fun k hk => Nat.le_of_succ_le (hq1.own_ge k hk))
  replace hq1 := hide hq1
  replace hk1 := hide hk1
  clear hW0 hA1
  go_wp2_with fail
  refine (unhide hA2).mono ?_
  rintro x W2 ⟨rfl, v2, H2, hq2, hp2, hk2, ho2⟩
  have hB2 := hide ((unhide hB1).trans (hk2.below (Nat.le_refl b) (unhide hv1) (unhide hs1)))
  have hl2 : H2.length = 1 + 1 := by rw [hp2.length_eq]; simp [hl1]
  have hpp : H2.Perm [eD 2 0, eD 5 0] := hp2.trans (hp1.cons _)
  have hf2 : at0 H2 0 = eD 2 0 := first_of hpp hq2.2.2 (by kernel_rfl)
  have hN := hide (qNext_any b 1 v2 H2 W2 hq2 hl2 (by omega))
  rw [hf2] at hN
  have hs2 := hide (show b ≤ W2.heap.size from Nat.le_of_lt hq2.1.lt)
  have hv2 := hide (fun k hk => Nat.le_of_succ_le (hq2.own_ge k hk))
  replace hq2 := hide hq2
  replace hk2 := hide hk2
  clear hA2
  go_wp2_with fail
  refine (unhide hN).mono ?_
  rintro x W3 ⟨rfl, v3, H3, hq3, hp3, hk3, ho3⟩
  have hB3 := (unhide hB2).trans (hk3.below (Nat.le_refl b) (unhide hv2) (unhide hs2))
  have hl3 : H3.length = 1 := by have := hp3.length_eq; rw [hl2] at this; simpa using this
  have hb3 := hq3.1.lt
  replace hk3 := hide hk3
  replace hq3 := hide hq3
  replace hB3 := hide hB3
  clear hN hp1 hp2 hpp hp3 ho1 ho2
  obtain ⟨X3, hX3⟩ : ∃ X3, X3 = W3.alloc (.cells #[.int .i64 (eD 2 0).p, .int .i64 (eD 2 0).n, .string (eD 2 0).s] 29 (0, 0)) := ⟨_, rfl⟩
  have hx3 : X3.heap.size = W3.heap.size + 1 := by rw [hX3]; simp
  have hB3x : Below W3.heap.size W3 X3 := by rw [hX3]; exact (Below.refl _ _).alloc (Nat.le_refl _) _
  have hbox : X3.cell? ⟨W3.heap.size, 0, none⟩ = some (.int .i64 2) := by rw [hX3]; simp; rfl
  obtain ⟨X4, hX4⟩ : ∃ X4, X4 = ((X3.alloc (.cells #[.int .i64 5, .int .i64 1, .string ⟨#[]⟩] 29 (0, 0))).alloc (.cells #[.int .i64 2, .int .i64 1, .string ⟨#[]⟩, .int .i64 5, .int .i64 1, .string ⟨#[]⟩] 29 (0, 0))).alloc (.cells #[.slice (some ⟨W3.heap.size + 1, 0, none⟩) 1 1, .slice (some ⟨W3.heap.size + 1 + 1, 0, none⟩) 2 2] 22 (0, 0)) := ⟨_, rfl⟩
  have hE4 : Edss X4 (.slice (some ⟨W3.heap.size + 1 + 1 + 1, 0, none⟩) 2 2) [[eD 5 1], [eD 2 1, eD 5 1]] := by
    rw [hX4, ← hx3]
    exact edss_two X3 [eD 5 1] [eD 2 1, eD 5 1] (by simp) (by simp)
  have hB4 : Below X3.heap.size X3 X4 := by
    rw [hX4]
    exact (((Below.refl _ _).alloc (Nat.le_refl _) _).alloc (by simp) _).alloc (by simp; omega) _
  have hAll1 := hide (pAll_any _ _ X4 hE4 (by simp) (by simp) (by
    intro e he
    simp only [List.flatten_cons, List.flatten_nil, List.append_nil, List.cons_append, List.nil_append, List.mem_cons, List.not_mem_nil, or_false] at he
    rcases he with rfl | rfl | rfl <;> exact ⟨⟨by decide, by decide⟩, by decide, by decide⟩))
  rw [show [[eD 5 1], [eD 2 1, eD 5 1]].flatten = [eD 5 1, eD 2 1, eD 5 1] from rfl, once1, may1] at hAll1
  have hs34 : X3.heap.size ≤ X4.heap.size := hB4.size
  replace hE4 := hide hE4
  replace hB4 := hide hB4
  replace hB3x := hide hB3x
  replace hX4 := hide hX4
  replace hX3 := hide hX3
  go_wp2_with fail
  rw [← unhide hX3, ← unhide hX4]
  refine (unhide hAll1).mono ?_
  rintro x W5 ⟨v5, rfl, ho5, hB5⟩
  rw [if_pos trivial] at ho5
  have hB35 : Below X3.heap.size X3 W5 := (unhide hB4).trans (hB5.mono hs34)
  have hq5 := hide (((unhide hq3).below (unhide hB3x)).below hB35)
  have hbox5 : W5.cell? ⟨W3.heap.size, 0, none⟩ = some (.int .i64 2) := by rw [hB35.cell (by show W3.heap.size < _; omega)]; exact hbox
  have hBw5 : Below b w W5 := ((unhide hB3).trans ((unhide hB3x).mono (by omega))).trans (hB35.mono (by omega))
  have hs35 : W3.heap.size < W5.heap.size := by have := hB35.size; omega
  replace hB35 := hide hB35
  replace hB5 := hide hB5
  clear hbox
  obtain ⟨X6, hX6⟩ : ∃ X6, X6 = ((W5.alloc (.cells #[.int .i64 5, .int .i64 1, .string ⟨#[]⟩] 29 (0, 0))).alloc (.cells #[.int .i64 6, .int .i64 1, .string ⟨#[]⟩] 29 (0, 0))).alloc (.cells #[.slice (some ⟨W5.heap.size, 0, none⟩) 1 1, .slice (some ⟨W5.heap.size + 1, 0, none⟩) 1 1] 22 (0, 0)) := ⟨_, rfl⟩
  have hE6 : Edss X6 (.slice (some ⟨W5.heap.size + 1 + 1, 0, none⟩) 2 2) [[eD 5 1], [eD 6 1]] := by
    rw [hX6]
    exact edss_two W5 [eD 5 1] [eD 6 1] (by simp) (by simp)
  have hB6 : Below W5.heap.size W5 X6 := by
    rw [hX6]
    exact (((Below.refl _ _).alloc (Nat.le_refl _) _).alloc (by simp) _).alloc (by simp; omega) _
  have hAll2 := hide (pAll_any _ _ X6 hE6 (by simp) (by simp) (by
    intro e he
    simp only [List.flatten_cons, List.flatten_nil, List.append_nil, List.cons_append, List.nil_append, List.mem_cons, List.not_mem_nil, or_false] at he
    rcases he with rfl | rfl <;> exact ⟨⟨by decide, by decide⟩, by decide, by decide⟩))
  rw [show [[eD 5 1], [eD 6 1]].flatten = [eD 5 1, eD 6 1] from rfl, once2, may2] at hAll2
  have hs56 : W5.heap.size ≤ X6.heap.size := hB6.size
  replace hE6 := hide hE6
  replace hB6 := hide hB6
  replace hX6 := hide hX6
  replace ho5 := hide ho5
  replace hBw5 := hide hBw5
  go_wp2_with fail
  rw [← unhide hX6]
  refine (unhide hAll2).mono ?_
  rintro x W7 ⟨v7, rfl, ho7, hB7⟩
  have hB57 : Below W5.heap.size W5 W7 := (unhide hB6).trans (hB7.mono hs56)
  have hq7 := (unhide hq5).below hB57
  have hbox7 : W7.cell? ⟨W3.heap.size, 0, none⟩ = some (.int .i64 2) := by rw [hB57.cell (by show W3.heap.size < _; omega)]; exact hbox5
  have hBw7 := (unhide hBw5).trans (hB57.mono (Nat.le_of_lt (Nat.lt_of_le_of_lt (Nat.le_of_lt hb3) hs35)))
  obtain ⟨g5, c5, rfl, hr7⟩ : ∃ g5 c5, v5 = .slice (some ⟨g5, 0, none⟩) 2 c5 ∧ RowE W7 g5 c5 [eD 2 1, eD 5 1] := by
    rcases (unhide ho5).forms with ⟨_, h0⟩ | ⟨g5, c5, h1, _, h3⟩
    · cases h0
    · exact ⟨g5, c5, h1, h3.below hB57⟩
  obtain ⟨c0, _, _⟩ := hr7.at 0 (by simp)
  have hc0 : W7.cell? ⟨g5, 0, none⟩ = some (.int .i64 2) := c0
  have hroom := hr7.room
  unfold maxLen at hroom
  have hc5 : 2 ≤ c5 := hroom.1
  have hLen := hide (qLen_any b v3 H3 W7 hq7)
  rw [hl3] at hLen
  have hSort := hide (pSort_any _ _ W7 hr7.eds (fun c h => by injection h with h; cases h) (by simp))
  replace hr7 := hide hr7
  replace hq7 := hide hq7
  replace hB7 := hide hB7
  replace hB57 := hide hB57
  replace hBw7 := hide hBw7
  clear c0
  go_wp2_with fail
  refine (unhide hLen).mono ?_
  rintro x W8 ⟨rfl, rfl⟩
  go_wp2_with fail
  refine (unhide hSort).mono ?_
  rintro x W9 ⟨v9, rfl, ho9, hB9⟩
  obtain ⟨a9, c9, rfl⟩ : ∃ a9 c9, v9 = .slice a9 2 c9 := by
    rcases ho9.forms with ⟨_, h0⟩ | ⟨g9, c9, h1, _, h3⟩
    · have := srt_len [eD 2 1, eD 5 1]; rw [h0] at this; simp at this
    · exact ⟨_, c9, by rw [h1, srt_len]; rfl⟩
  replace ho9 := hide ho9
  go_wp2
  go_ret
  exact ⟨rfl, (unhide hBw7).trans (hB9.mono (by have := (unhide hBw7).size; omega))⟩
end Go.Proofs.Ytpjpghigilbfaaa

/-
  The program's Queue: Len, Add, Next.
-/
import Derived.Test.YtpjpghigilbfaaaHpPop
import Derived.Test.YtpjpghigilbfaaaOrdN
namespace Go.Proofs.Ytpjpghigilbfaaa
open Go.RowKit Go.Lib Go.Sort
set_option linter.unusedSimpArgs false
set_option linter.unusedVariables false
theorem Que.shape {w : World} {b : Nat} {v : Value} {H : List Ed} (h : Que w b v H) : ∃ a c, v = .slice a H.length c := by
  rcases h.2.1.forms with ⟨rfl, rfl⟩ | ⟨g, cap, rfl, _⟩
  · exact ⟨none, 0, rfl⟩
  · exact ⟨_, cap, rfl⟩
theorem Que.kept {w w' : World} {b : Nat} {v : Value} {H : List Ed} {r : Option Nat} (h : Que w b v H) (hg : w.grownBy w' r) (hb : r ≠ some b) (hv : r = none ∨ v.ownBlock ≠ r) : Que w' b v H :=
  ⟨h.1.kept0 hg hb, World.ownsRow.kept h.2.1 hg (by
    rcases hv with hv | hv
    · subst hv
      cases hk : v.ownBlock with
      | none => exact .inl rfl
      | some k => exact .inr (by simp)
    · exact .inr hv), h.2.2⟩
set_option maxHeartbeats 1000000 in
theorem qLen_any (b : Nat) (v : Value) (H : List Ed) (w : World) (h : Que w b v H) : Calls Try.prog 13 #[.pointer (some ⟨b, 0, none⟩)] w fun e w' => e = .returned (.int .i64 H.length) ∧ w' = w := by
  obtain ⟨a, c, rfl⟩ := h.shape
  have hc := h.1.cell
  replace h := hide h
  go_enter Try.func13, Try.ntmps13
  go_wp2
  go_ret
  exact ⟨rfl, rfl⟩
set_option maxHeartbeats 1000000 in
theorem qLen_nil (w : World) : Calls Try.prog 13 #[.pointer none] w fun e w' => e = .returned (.int .i64 0) ∧ w' = w := by
  go_enter Try.func13, Try.ntmps13
  go_wp2
  go_ret
  exact ⟨rfl, rfl⟩
set_option maxHeartbeats 2000000 in
set_option maxRecDepth 100000 in
theorem qAdd_any (b : Nat) (v : Value) (H : List Ed) (e : Ed) (w : World) (h : Que w b v H) (hl : H.length ≤ 900) :
    Calls Try.prog 9 #[.pointer (some ⟨b, 0, none⟩), .agg #[.int .i64 e.p, .int .i64 e.n, .string e.s]] w fun x w' => x = .returned (.tuple #[]) ∧ ∃ (v' : Value) (H' : List Ed), Que w' b v' H' ∧ H'.Perm (e :: H) ∧ Kept w w' b v.ownBlock ∧ (v'.ownBlock = v.ownBlock ∨ ∀ k, v'.ownBlock = some k → w.heap.size ≤ k) := by
  obtain ⟨ep, en, es⟩ := e
  dsimp only
  obtain ⟨W, hW⟩ : ∃ W, W = w.alloc (.cells #[.int .i64 ep, .int .i64 en, .string es] 29 (0, 0)) := ⟨_, rfl⟩
  have hgr : w.grownBy W none := by rw [hW]; exact grown_alloc _ _ _
  have hq : Que W b v H := h.kept hgr (by simp) (.inl rfl)
  have x0 : W.cell? ⟨w.heap.size, 0, none⟩ = some (.int .i64 ep) := by rw [hW]; simp
  have x1 : W.cell? ⟨w.heap.size, 1, none⟩ = some (.int .i64 en) := by rw [hW]; simp
  have x2 : W.cell? ⟨w.heap.size, 2, none⟩ = some (.string es) := by rw [hW]; simp
  have hP := hide (fun n => heapPush_any b v H ⟨ep, en, es⟩ (W.drewN n) (hq.kept (r := none) ⟨rfl, rfl, rfl, Nat.le_refl _, fun _ _ _ => rfl⟩ (by simp) (.inl rfl)) hl)
  have hnil : ∀ W : World, (binOp .eql 45 (.pointer (some ⟨b, 0, none⟩)) (.pointer none)).run Try.prog W = .ok (.bool false) W := fun W => by go_simp
  replace h := hide h
  replace hq := hide hq
  replace hgr := hide hgr
  go_enter Try.func9, Try.ntmps9
  go_wp2
  rw [← hW]
  replace hW := hide hW
  refine wp_region_narrow 6 (by kernel_rfl) rfl (by kernel_rfl) ?_
  simp only [List.take_succ_cons, List.take_zero]
  repeat (go_big_quiet_step (fail))
  refine wpQuiet_nil ?_
  intro nq K hK
  rw [if_pos (by kernel_rfl)]
  clear x0 x1 x2
  go_simp
  refine (unhide hP nq).mono ?_
  rintro x W2 ⟨rfl, v', H', h1, h2, h3, h4⟩
  go_simp
  refine unhide hK _ _ ?_
  clear hK K
  simp only [List.drop_succ_cons, List.drop_zero]
  refine wpQuiet_nil ?_
  rintro _ ⟨nq3, rfl⟩
  go_wp2
  go_end0
  refine ⟨rfl, v', H', h1.kept (r := none) ⟨rfl, rfl, rfl, Nat.le_refl _, fun _ _ _ => rfl⟩ (by simp) (.inl rfl), h2, ?_, ?_⟩
  · exact Kept.pre (unhide hgr) (Kept.pre (w1 := W.drewN nq) ⟨rfl, rfl, rfl, Nat.le_refl _, fun _ _ _ => rfl⟩ ⟨h3.os, h3.tape, h3.output, h3.size, h3.block⟩)
  · rcases h4 with h4 | h4
    · exact .inl h4
    · exact .inr (fun k hk => Nat.le_trans (unhide hgr).size (h4 k hk))
set_option maxHeartbeats 1000000 in
theorem qAdd_nil (w : World) (e : Ed) : Calls Try.prog 9 #[.pointer none, .agg #[.int .i64 e.p, .int .i64 e.n, .string e.s]] w fun x w' => x = .returned (.tuple #[]) ∧ Below w.heap.size w w' := by
  go_enter Try.func9, Try.ntmps9
  go_wp2
  exact bodyPost_ret (results_none rfl _ _ _) rfl ⟨rfl, (Below.refl _ _).alloc (Nat.le_refl _) _⟩
set_option maxHeartbeats 2000000 in
set_option maxRecDepth 100000 in
theorem qNext_nil (w : World) : Calls Try.prog 11 #[.pointer none] w fun x w' => x = .returned (.tuple #[.agg #[.int .i64 0, .int .i64 0, .string ⟨#[]⟩], .bool false]) ∧ Below w.heap.size w w' := by
  have hL := hide (fun W => qLen_nil W)
  go_enter Try.func11, Try.ntmps11
  go_wp2_with fail
  refine (unhide hL _).mono ?_
  rintro x W1 ⟨rfl, rfl⟩
  go_wp2
  exact bodyPost_ret (v := .tuple #[.agg #[.int .i64 0, .int .i64 0, .string ⟨#[]⟩], .bool false]) (by simp [results, Try.results11, go_sem]) rfl ⟨rfl, (Below.refl _ _).alloc (Nat.le_refl _) _⟩
set_option maxHeartbeats 2000000 in
set_option maxRecDepth 100000 in
/-- Of an empty queue. -/
theorem qNext_none (b : Nat) (v : Value) (w : World) (h : Que w b v []) : Calls Try.prog 11 #[.pointer (some ⟨b, 0, none⟩)] w fun x w' => x = .returned (.tuple #[.agg #[.int .i64 0, .int .i64 0, .string ⟨#[]⟩], .bool false]) ∧ Below w.heap.size w w' ∧ Que w' b v [] := by
  have hq : Que (w.alloc (.cells #[.int .i64 0, .int .i64 0, .string ⟨#[]⟩] 29 (0, 0))) b v [] := h.kept (r := none) (grown_alloc _ _ _) (by simp) (.inl rfl)
  have hL := hide (qLen_any b v [] _ hq)
  replace hq := hide hq
  replace h := hide h
  go_enter Try.func11, Try.ntmps11
  go_wp2_with fail
  refine (unhide hL).mono ?_
  rintro x W1 ⟨rfl, rfl⟩
  go_wp2
  exact bodyPost_ret (v := .tuple #[.agg #[.int .i64 0, .int .i64 0, .string ⟨#[]⟩], .bool false]) (by simp [results, Try.results11, go_sem]) rfl ⟨rfl, (Below.refl _ _).alloc (Nat.le_refl _) _, unhide hq⟩
theorem Kept.below {w w' : World} {b : Nat} {r : Option Nat} (h : Kept w w' b r) {B : Nat} (hb : B ≤ b) (hr : ∀ k, r = some k → B ≤ k) (hB : B ≤ w.heap.size) : Below B w w' :=
  ⟨h.os, h.tape, h.output, h.size, fun k hk => h.block k (by omega) (by omega) (fun e => by have := hr k e.symm; omega)⟩
set_option maxHeartbeats 4000000 in
set_option maxRecDepth 100000 in
/-- Of one that has some. -/
theorem qNext_any (b n : Nat) (v : Value) (H : List Ed) (w : World) (h : Que w b v H) (hl : H.length = n + 1) (hn : n ≤ 900) : Calls Try.prog 11 #[.pointer (some ⟨b, 0, none⟩)] w fun x w' => x = .returned (.tuple #[.agg #[.int .i64 (at0 H 0).p, .int .i64 (at0 H 0).n, .string (at0 H 0).s], .bool true]) ∧ ∃ (v' : Value) (H' : List Ed), Que w' b v' H' ∧ (at0 H 0 :: H').Perm H ∧ Kept w w' b v.ownBlock ∧ v'.ownBlock = v.ownBlock := by
  obtain ⟨W0, hW0⟩ : ∃ W0, W0 = w.alloc (.cells #[.int .i64 0, .int .i64 0, .string ⟨#[]⟩] 29 (0, 0)) := ⟨_, rfl⟩
  have hg0 : w.grownBy W0 none := by rw [hW0]; exact grown_alloc _ _ _
  have hq0 : Que W0 b v H := h.kept hg0 (by simp) (.inl rfl)
  have hL := hide (qLen_any b v H W0 hq0)
  rw [hl] at hL
  obtain ⟨g, cap, rfl, hbg, hr⟩ : ∃ g cap, v = .slice (some ⟨g, 0, none⟩) (n + 1) cap ∧ b + 1 ≤ g ∧ RowE W0 g cap H := by
    rcases hq0.2.1.forms with ⟨_, h0⟩ | ⟨g, cap, h1, h2, h3⟩
    · rw [h0] at hl; simp at hl
    · exact ⟨g, cap, by rw [h1, hl], h2, h3⟩
  have hc := hq0.1.cell
  obtain ⟨x0, x1, x2⟩ := hr.at 0 (by omega)
  simp only [Nat.zero_mul, Nat.zero_add] at x0 x1 x2
  have hroom := hr.room
  rw [hl] at hroom
  unfold maxLen at hroom
  have hE : Hid (H.getD 0 ed0 = at0 H 0) := hide rfl
  have hs0 : W0.heap.size = w.heap.size + 1 := by rw [hW0]; simp
  have r0 : W0.cell? ⟨w.heap.size, 0, none⟩ = some (.int .i64 0) := by rw [hW0]; simp
  have r1 : W0.cell? ⟨w.heap.size, 1, none⟩ = some (.int .i64 0) := by rw [hW0]; simp
  have r2 : W0.cell? ⟨w.heap.size, 2, none⟩ = some (.string ⟨#[]⟩) := by rw [hW0]; simp
  have rb : W0.heap[w.heap.size]? = some (.cells #[.int .i64 0, .int .i64 0, .string ⟨#[]⟩] 29 (0, 0)) := by rw [hW0]; exact heap_alloc_new _ _
  generalize hEE : H.getD 0 ed0 = E at *
  rw [← unhide hE]
  obtain ⟨ep, en, es⟩ := E
  dsimp only at *
  have hgw : g ≠ w.heap.size := by
    intro e
    have := h.2.1.lt g rfl
    omega
  have hbw : b < w.heap.size := h.1.lt
  replace h := hide h
  replace hq0 := hide hq0
  replace hr := hide hr
  replace rb := hide rb
  replace hg0 := hide hg0
  replace hEE := hide hEE
  go_enter Try.func11, Try.ntmps11
  go_wp2_with fail
  rw [← hW0]
  refine (unhide hL).mono ?_
  rintro x W1 ⟨rfl, rfl⟩
  clear hW0
  obtain ⟨W2, hW2⟩ : ∃ W2, W2 = W1.alloc (.cells #[.int .i64 ep, .int .i64 en, .string es] 29 (0, 0)) := ⟨_, rfl⟩
  have hg2 : W1.grownBy W2 none := by rw [hW2]; exact grown_alloc _ _ _
  have hq2 : Que W2 b (.slice (some ⟨g, 0, none⟩) (n + 1) cap) H := (unhide hq0).kept hg2 (by simp) (.inl rfl)
  have hP := hide (heapPop_any b n _ H W2 hq2 hl hn)
  have bb : W2.heap[w.heap.size + 1]? = some (.cells #[.int .i64 ep, .int .i64 en, .string es] 29 (0, 0)) := by rw [hW2, ← hs0]; exact heap_alloc_new _ _
  have rb2 : W2.heap[w.heap.size]? = some (.cells #[.int .i64 0, .int .i64 0, .string ⟨#[]⟩] 29 (0, 0)) := by rw [hg2.block _ (by omega) (by simp)]; exact unhide rb
  have hs2 : W2.heap.size = w.heap.size + 2 := by rw [hW2]; simp [hs0]
  have hglt : g < w.heap.size := by have := (unhide h).2.1.lt g rfl; omega
  replace hg2 := hide hg2
  replace hq2 := hide hq2
  replace bb := hide bb
  replace rb2 := hide rb2
  go_wp2_with fail
  rw [← hW2]
  refine (unhide hP).mono ?_
  rintro x W3 ⟨y, rfl, v', H', hq3, hpm, hk3, hv3⟩
  have bb3 := hk3.block (w.heap.size + 1) (by omega) (by omega) (by simp [Value.ownBlock]; omega)
  rw [unhide bb] at bb3
  have rb3 := hk3.block w.heap.size (by omega) (by omega) (by simp [Value.ownBlock]; omega)
  rw [unhide rb2] at rb3
  have y0 : W3.cell? ⟨w.heap.size + 1, 0, none⟩ = some (.int .i64 ep) := by rw [Joins.cell_of_block bb3 0]; rfl
  have y1 : W3.cell? ⟨w.heap.size + 1, 1, none⟩ = some (.int .i64 en) := by rw [Joins.cell_of_block bb3 1]; rfl
  have y2 : W3.cell? ⟨w.heap.size + 1, 2, none⟩ = some (.string es) := by rw [Joins.cell_of_block bb3 2]; rfl
  have z0 : W3.cell? ⟨w.heap.size, 0, none⟩ = some (.int .i64 0) := by rw [Joins.cell_of_block rb3 0]; rfl
  have z1 : W3.cell? ⟨w.heap.size, 1, none⟩ = some (.int .i64 0) := by rw [Joins.cell_of_block rb3 1]; rfl
  have z2 : W3.cell? ⟨w.heap.size, 2, none⟩ = some (.string ⟨#[]⟩) := by rw [Joins.cell_of_block rb3 2]; rfl
  have f0 : W3.frozen? ⟨w.heap.size, 0, none⟩ = false := Joins.unfrozen_of_block rb3 0
  have f1 : W3.frozen? ⟨w.heap.size, 1, none⟩ = false := Joins.unfrozen_of_block rb3 1
  have f2 : W3.frozen? ⟨w.heap.size, 2, none⟩ = false := Joins.unfrozen_of_block rb3 2
  have hfin : Hid (∀ a c d : Value, Que (((W3.setCell ⟨w.heap.size, 0, none⟩ a).setCell ⟨w.heap.size, 1, none⟩ c).setCell ⟨w.heap.size, 2, none⟩ d) b v' H' ∧ Kept w (((W3.setCell ⟨w.heap.size, 0, none⟩ a).setCell ⟨w.heap.size, 1, none⟩ c).setCell ⟨w.heap.size, 2, none⟩ d) b (some g)) := hide (fun a c d => by
    have hgs := (((grown_set W3 w.heap.size 0 a).trans1 (grown_set _ w.heap.size 1 c)).trans1 (grown_set _ w.heap.size 2 d))
    refine ⟨hq3.kept hgs (by simp; omega) (.inr (by rw [hv3]; simp [Value.ownBlock]; omega)), ?_⟩
    exact (Kept.pre (unhide hg0) (Kept.pre (unhide hg2) hk3)).more hgs (.inr (Nat.le_refl _)))
  replace hk3 := hide hk3
  replace hq3 := hide hq3
  replace hv3 := hide hv3
  replace hpm := hide hpm
  clear x0 x1 x2 r0 r1 r2 hc hW2
  go_wp2
  obtain ⟨k1, k2⟩ := unhide hfin (.int .i64 ep) (.int .i64 en) (.string es)
  exact bodyPost_ret (v := .tuple #[.agg #[.int .i64 ep, .int .i64 en, .string es], .bool true]) (by simp [results, Try.results11, go_sem, z0, z1, z2]) rfl ⟨rfl, v', H', k1, by rw [unhide hE]; exact unhide hpm, k2, unhide hv3⟩
end Go.Proofs.Ytpjpghigilbfaaa

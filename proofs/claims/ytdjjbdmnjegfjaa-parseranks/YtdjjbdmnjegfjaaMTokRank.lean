/-
  The reference's Rank.
-/
import Derived.Test.YtdjjbdmnjegfjaaB01
import Derived.Test.YtdjjbdmnjegfjaaMRefIn
namespace Go.Proofs.Ytdjjbdmnjegfjaa
open Go.RowKit
set_option linter.unusedSimpArgs false
def ranksB : List (List ByteArray) := [[⟨#[124, 124]⟩], [⟨#[38, 38]⟩], [⟨#[61, 61]⟩, ⟨#[33, 61]⟩, ⟨#[60]⟩], [⟨#[43]⟩, ⟨#[45]⟩], [⟨#[42]⟩]]
theorem rank_at (s : ByteArray) (k : Nat) (hk : k < 5) (hno : ∀ j, j < k → inB s (ranksB.getD j []) = false) (h : inB s (ranksB.getD k []) = true) : rankN s = (k : Int) + 1 := by
  have e0 : inB s (ranksB.getD 0 []) = eqT s [124, 124] := by simp only [ranksB, List.getD_cons_zero, inB, eqT, List.any_cons, List.any_nil, Bool.or_false]
  have e1 : inB s (ranksB.getD 1 []) = eqT s [38, 38] := by simp only [ranksB, List.getD_cons_succ, List.getD_cons_zero, inB, eqT, List.any_cons, List.any_nil, Bool.or_false]
  have e2 : inB s (ranksB.getD 2 []) = (eqT s [61, 61] || eqT s [33, 61] || eqT s [60]) := by simp only [ranksB, List.getD_cons_succ, List.getD_cons_zero, inB, eqT, List.any_cons, List.any_nil, Bool.or_false, Bool.or_assoc]
  have e3 : inB s (ranksB.getD 3 []) = (eqT s [43] || eqT s [45]) := by simp only [ranksB, List.getD_cons_succ, List.getD_cons_zero, inB, eqT, List.any_cons, List.any_nil, Bool.or_false, Bool.or_assoc]
  have e4 : inB s (ranksB.getD 4 []) = eqT s [42] := by simp only [ranksB, List.getD_cons_succ, List.getD_cons_zero, inB, eqT, List.any_cons, List.any_nil, Bool.or_false]
  have hk' : k = 0 ∨ k = 1 ∨ k = 2 ∨ k = 3 ∨ k = 4 := by omega
  rcases hk' with rfl | rfl | rfl | rfl | rfl
  · rw [e0] at h; rw [rankN, h]; rfl
  · have h0 := hno 0 (by omega)
    rw [e1] at h; rw [e0] at h0; rw [rankN, h0, h]; rfl
  · have h0 := hno 0 (by omega)
    have h1 := hno 1 (by omega)
    rw [e2] at h; rw [e0] at h0; rw [e1] at h1; rw [rankN, h0, h1, h]; rfl
  · have h0 := hno 0 (by omega)
    have h1 := hno 1 (by omega)
    have h2 := hno 2 (by omega)
    rw [e3] at h; rw [e0] at h0; rw [e1] at h1; rw [e2] at h2; rw [rankN, h0, h1, h2, h]; rfl
  · have h0 := hno 0 (by omega)
    have h1 := hno 1 (by omega)
    have h2 := hno 2 (by omega)
    have h3 := hno 3 (by omega)
    rw [e4] at h; rw [e0] at h0; rw [e1] at h1; rw [e2] at h2; rw [e3] at h3; rw [rankN, h0, h1, h2, h3, h]; rfl
theorem rank_none (s : ByteArray) (hno : ∀ j, j < 5 → inB s (ranksB.getD j []) = false) : rankN s = 0 := by
  have h0 := hno 0 (by omega)
  have h1 := hno 1 (by omega)
  have h2 := hno 2 (by omega)
  have h3 := hno 3 (by omega)
  have h4 := hno 4 (by omega)
  have e0 : inB s (ranksB.getD 0 []) = eqT s [124, 124] := by simp only [ranksB, List.getD_cons_zero, inB, eqT, List.any_cons, List.any_nil, Bool.or_false]
  have e1 : inB s (ranksB.getD 1 []) = eqT s [38, 38] := by simp only [ranksB, List.getD_cons_succ, List.getD_cons_zero, inB, eqT, List.any_cons, List.any_nil, Bool.or_false]
  have e2 : inB s (ranksB.getD 2 []) = (eqT s [61, 61] || eqT s [33, 61] || eqT s [60]) := by simp only [ranksB, List.getD_cons_succ, List.getD_cons_zero, inB, eqT, List.any_cons, List.any_nil, Bool.or_false, Bool.or_assoc]
  have e3 : inB s (ranksB.getD 3 []) = (eqT s [43] || eqT s [45]) := by simp only [ranksB, List.getD_cons_succ, List.getD_cons_zero, inB, eqT, List.any_cons, List.any_nil, Bool.or_false, Bool.or_assoc]
  have e4 : inB s (ranksB.getD 4 []) = eqT s [42] := by simp only [ranksB, List.getD_cons_succ, List.getD_cons_zero, inB, eqT, List.any_cons, List.any_nil, Bool.or_false]
  rw [e0] at h0; rw [e1] at h1; rw [e2] at h2; rw [e3] at h3; rw [e4] at h4
  rw [rankN, h0, h1, h2, h3, h4]; rfl
/-- The five slices. -/
def rkV (n : Nat) : List Value := [.slice (some ⟨n, 0, none⟩) 1 1, .slice (some ⟨n + 1, 0, none⟩) 1 1, .slice (some ⟨n + 1 + 1, 0, none⟩) 3 3, .slice (some ⟨n + 1 + 1 + 1, 0, none⟩) 2 2, .slice (some ⟨n + 1 + 1 + 1 + 1, 0, none⟩) 1 1]
def txt (xs : List ByteArray) : Obj := .cells (xs.map Value.string).toArray 9
theorem lst_txt (w w' : World) (xs : List ByteArray) (n : Nat) (hn : w.heap.size = n) (hl : xs.length ≤ 100) (hb : Below (w.alloc (txt xs)).heap.size (w.alloc (txt xs)) w') : Lst w' (.slice (some ⟨n, 0, none⟩) xs.length xs.length) (xs.map Value.string) := by
  have h := (lst_alloc w (xs.map Value.string) 9 (0, 0) (by rw [List.length_map]; omega)).below hb (Nat.le_refl _)
  rw [List.length_map, hn] at h
  exact h
theorem ranks_laid (w W : World) (hW : W = (((((w.alloc (txt [⟨#[124, 124]⟩])).alloc (txt [⟨#[38, 38]⟩])).alloc (txt [⟨#[61, 61]⟩, ⟨#[33, 61]⟩, ⟨#[60]⟩])).alloc (txt [⟨#[43]⟩, ⟨#[45]⟩])).alloc (txt [⟨#[42]⟩])).alloc (.cells (rkV w.heap.size).toArray 23)) :
    Below w.heap.size w W ∧ (∀ i, i < 5 → W.cell? ⟨w.heap.size + 1 + 1 + 1 + 1 + 1, i, none⟩ = some ((rkV w.heap.size).getD i undef)) ∧ ∀ i, i < 5 → Lst W ((rkV w.heap.size).getD i undef) ((ranksB.getD i []).map Value.string) := by
  generalize h1 : w.alloc (txt [⟨#[124, 124]⟩]) = w1 at hW
  generalize h2 : w1.alloc (txt [⟨#[38, 38]⟩]) = w2 at hW
  generalize h3 : w2.alloc (txt [⟨#[61, 61]⟩, ⟨#[33, 61]⟩, ⟨#[60]⟩]) = w3 at hW
  generalize h4 : w3.alloc (txt [⟨#[43]⟩, ⟨#[45]⟩]) = w4 at hW
  generalize h5 : w4.alloc (txt [⟨#[42]⟩]) = w5 at hW
  have s1 : w1.heap.size = w.heap.size + 1 := by rw [← h1]; simp
  have s2 : w2.heap.size = w.heap.size + 1 + 1 := by rw [← h2, ← s1]; simp
  have s3 : w3.heap.size = w.heap.size + 1 + 1 + 1 := by rw [← h3, ← s2]; simp
  have s4 : w4.heap.size = w.heap.size + 1 + 1 + 1 + 1 := by rw [← h4, ← s3]; simp
  have s5 : w5.heap.size = w.heap.size + 1 + 1 + 1 + 1 + 1 := by rw [← h5, ← s4]; simp
  have b1 : Below w.heap.size w w1 := h1 ▸ below_alloc _ _
  have b2 : Below w1.heap.size w1 w2 := h2 ▸ below_alloc _ _
  have b3 : Below w2.heap.size w2 w3 := h3 ▸ below_alloc _ _
  have b4 : Below w3.heap.size w3 w4 := h4 ▸ below_alloc _ _
  have b5 : Below w4.heap.size w4 w5 := h5 ▸ below_alloc _ _
  have b6 : Below w5.heap.size w5 W := hW ▸ below_alloc _ _
  have c5 : Below w4.heap.size w4 W := below3 b5 b6
  have c4 : Below w3.heap.size w3 W := below3 b4 c5
  have c3 : Below w2.heap.size w2 W := below3 b3 c4
  have c2 : Below w1.heap.size w1 W := below3 b2 c3
  have l1 := lst_txt w W [⟨#[124, 124]⟩] _ rfl (by decide) (h1.symm ▸ c2)
  have l2 := lst_txt w1 W [⟨#[38, 38]⟩] _ s1 (by decide) (h2.symm ▸ c3)
  have l3 := lst_txt w2 W [⟨#[61, 61]⟩, ⟨#[33, 61]⟩, ⟨#[60]⟩] _ s2 (by decide) (h3.symm ▸ c4)
  have l4 := lst_txt w3 W [⟨#[43]⟩, ⟨#[45]⟩] _ s3 (by decide) (h4.symm ▸ c5)
  have l5 := lst_txt w4 W [⟨#[42]⟩] _ s4 (by decide) (h5.symm ▸ b6)
  refine ⟨below3 b1 c2, fun i hi => ?_, fun i hi => ?_⟩
  · rw [hW, ← s5, World.cell?_alloc_mark]
    have : i = 0 ∨ i = 1 ∨ i = 2 ∨ i = 3 ∨ i = 4 := by omega
    rcases this with rfl | rfl | rfl | rfl | rfl <;> rfl
  · have : i = 0 ∨ i = 1 ∨ i = 2 ∨ i = 3 ∨ i = 4 := by omega
    rcases this with rfl | rfl | rfl | rfl | rfl
    · exact l1
    · exact l2
    · exact l3
    · exact l4
    · exact l5
set_option maxHeartbeats 1000000 in
set_option maxRecDepth 100000 in
theorem rRank_any (s : ByteArray) (w : World) :
    Calls Try.prog 10 #[.string s] w fun e w' => e = .returned (.int .i64 (rankN s)) ∧ Below w.heap.size w w' := by
  go_enter Try.func10, Try.ntmps10
  go_wp2
  generalize hW : World.alloc _ (Obj.cells _ 23) = W
  obtain ⟨hb, hc, hl⟩ := ranks_laid w W hW.symm
  clear hW
  replace hb := hide hb
  replace hc := hide hc
  replace hl := hide hl
  generalize rkV w.heap.size = V at *
  generalize w.heap.size + 1 + 1 + 1 + 1 + 1 = g at *
  go_loopw [4] (fun ks wr => ∃ k : Nat, k ≤ 5 ∧ ks = .int .i64 k ∧ wr = W ∧ ∀ j, j < k → inB s (ranksB.getD j []) = false) (fun ks _ => 5 - (intOf ks).toNat)
  case atStart => exact ⟨0, by omega, rfl, rfl, fun i hi => by omega⟩
  case round =>
    obtain ⟨k, hk, rfl, rfl, hall⟩ := hrel
    by_cases hlt : k < 5
    · have hck := unhide hc k hlt
      have hlk := unhide hl k hlt
      have HI := rin_any s (ranksB.getD k []) _ _ (by
        have : k = 0 ∨ k = 1 ∨ k = 2 ∨ k = 3 ∨ k = 4 := by omega
        rcases this with rfl | rfl | rfl | rfl | rfl <;> decide) hlk
      have hf := rank_at s k hlt hall
      obtain ⟨b, off, cap, he, h1, h2, h3, h4⟩ := hlk
      clear h4
      rw [he] at hck HI
      clear he
      generalize ((ranksB.getD k []).map Value.string).length = n at *
      have hb' := unhide hb
      replace hall := hide hall
      cases hi : inB s (ranksB.getD k []) with
      | true =>
        have hf := hide (hf hi)
        rw [hi] at HI
        replace HI := hide HI
        replace hi := hide hi
        clear hc hl
        go_wp2_with fail
        refine (unhide HI).mono ?_
        rintro e W ⟨rfl, rfl⟩
        go_wp2
        go_ret
        exact ⟨ret_int (unhide hf).symm, hb'⟩
      | false =>
        clear hf
        rw [hi] at HI
        replace HI := hide HI
        replace hi := hide hi
        go_wp2_with fail
        refine (unhide HI).mono ?_
        rintro e W ⟨rfl, rfl⟩
        go_wp2
        go_roundw
        case rel =>
          refine ⟨k + 1, by omega, by go_num, by trivial, fun i hi' => ?_⟩
          rcases Nat.lt_or_ge i k with h | h
          · exact unhide hall i h
          · obtain rfl : i = k := by omega
            exact unhide hi
        case measure => simp [intOf]; omega
    · obtain rfl : k = 5 := by omega
      have hf := hide (rank_none s hall)
      have hb' := unhide hb
      clear hall hc hl
      go_wp2
      go_ret
      exact ⟨ret_int (unhide hf).symm, hb'⟩
end Go.Proofs.Ytdjjbdmnjegfjaa

/-
  The walks of package token: holdsNext, holdsLast, Ends, Space; op, word, Cut.
-/
import Derived.Test.YtmapohaobinjjaaTokWalk
namespace Go.Proofs.Ytmapohaobinjjaa
open Go.RowKit
set_option linter.unusedSimpArgs false
set_option maxHeartbeats 400000 in
set_option maxRecDepth 100000 in
theorem lop_any (s : ByteArray) (w : World) :
    Calls Try.prog 19 #[.string s] w fun e w' => e = .returned (Tk.val ⟨4, s, 0, 0, false⟩) ∧ Below w.heap.size w w' := by
  unfold Tk.val
  dsimp only
  go_enter Try.func19, Try.ntmps19
  go_wp2
  exact bodyPost_ret (v := .agg #[.int .i64 4, .string s, .int .i64 0, .int .i64 0, .bool false]) (by simp [results, Try.results19, go_sem]) rfl ⟨rfl, below_alloc _ _⟩
set_option maxHeartbeats 400000 in
set_option maxRecDepth 100000 in
theorem lword_any (s : ByteArray) (w : World) :
    Calls Try.prog 20 #[.string s] w fun e w' => e = .returned (Tk.val ⟨1, s, 0, 0, false⟩) ∧ Below w.heap.size w w' := by
  unfold Tk.val
  dsimp only
  go_enter Try.func20, Try.ntmps20
  go_wp2
  exact bodyPost_ret (v := .agg #[.int .i64 1, .string s, .int .i64 0, .int .i64 0, .bool false]) (by simp [results, Try.results20, go_sem]) rfl ⟨rfl, below_alloc _ _⟩
/-- A token that is not too long. -/
def Tk.cut (t : Tk) : Tk := ⟨t.k, cutS t.s 20, t.p, t.l, t.q⟩
set_option maxHeartbeats 400000 in
set_option maxRecDepth 100000 in
theorem tokCut_any (t : Tk) (w : World) (ht : t.s.size ≤ maxLen) :
    Calls Try.prog 8 #[t.val] w fun e w' => e = .returned t.cut.val ∧ Below w.heap.size w w' := by
  have HC := fun w => cut_any t.s 20 w ht (by omega)
  obtain ⟨k, s, p, l, q⟩ := t
  unfold Tk.cut Tk.val
  dsimp only at *
  generalize cutS s 20 = c at *
  have HC := hide HC
  go_enter Try.func8, Try.ntmps8
  go_wp2_with fail
  refine (unhide HC _).mono ?_
  rintro e W ⟨rfl, rfl⟩
  go_wp2
  exact bodyPost_ret (v := .agg #[.int .i64 k, .string c, .int .i64 p, .int .i64 l, .bool q]) (by simp [results, Try.results8, go_sem]) rfl ⟨rfl, below3 (below_alloc _ _) (below_alloc _ _)⟩
/-- The block b holds the token t. -/
def Box (w : World) (b : Nat) (t : Tk) : Prop :=
  w.cell? ⟨b, 0, none⟩ = some (.int .i64 t.k) ∧ w.cell? ⟨b, 1, none⟩ = some (.string t.s) ∧ w.cell? ⟨b, 2, none⟩ = some (.int .i64 t.p) ∧ w.cell? ⟨b, 3, none⟩ = some (.int .i64 t.l) ∧ w.cell? ⟨b, 4, none⟩ = some (.bool t.q)
theorem Box.below {w w' : World} {b B : Nat} {t : Tk} (h : Box w b t) (hb : Below B w w') (hB : b < B) : Box w' b t := by
  obtain ⟨h0, h1, h2, h3, h4⟩ := h
  exact ⟨by rw [hb.cell hB]; exact h0, by rw [hb.cell hB]; exact h1, by rw [hb.cell hB]; exact h2, by rw [hb.cell hB]; exact h3, by rw [hb.cell hB]; exact h4⟩
theorem box_alloc (w : World) (t : Tk) (fr : Nat × Nat) : Box (w.alloc (.cells #[.int .i64 t.k, .string t.s, .int .i64 t.p, .int .i64 t.l, .bool t.q] 23 fr)) w.heap.size t := by
  refine ⟨?_, ?_, ?_, ?_, ?_⟩ <;> rw [World.cell?_alloc_mark] <;> rfl
set_option maxHeartbeats 400000 in
set_option maxRecDepth 100000 in
theorem tholdsLast_any (b : Tk) (w : World) :
    Calls Try.prog 26 #[b.val] w fun e w' => e = .returned (.bool (lastB b)) ∧ Below w.heap.size w w' := by
  obtain ⟨k, s, p, l, q⟩ := b
  unfold Tk.val
  dsimp only
  go_enter Try.func26, Try.ntmps26
  go_wp2
  all_goals
    go_ret
    refine ⟨ret_bool ?_, below_alloc _ _⟩
    simp_all [lastB, sgn, eqT, ByteArray.toList_eq]
set_option maxHeartbeats 1000000 in
set_option maxRecDepth 100000 in
theorem tholdsNext_any (p a : Tk) (w : World) :
    Calls Try.prog 25 #[p.val, a.val] w fun e w' => e = .returned (.bool (nextB p a)) ∧ Below w.heap.size w w' := by
  have HO := fun w => toperand_any p w
  have hb : ∀ b, operB p = b → nextB p a = (sgn a [40] || sgn a [46] || sgn a [33] || (sgn a [45] && !b)) := fun b hb => by rw [← hb]; rfl
  generalize operB p = b at *
  have hb := hb b rfl
  rw [hb]
  clear hb
  obtain ⟨k, s, pp, l, q⟩ := a
  obtain ⟨k', s', p', l', q'⟩ := p
  unfold Tk.val at *
  dsimp only at *
  by_cases hk : k = 4 ∧ s.toList = [45]
  · obtain ⟨rfl, hs⟩ := hk
    rw [show (sgn ⟨4, s, pp, l, q⟩ [40] || sgn ⟨4, s, pp, l, q⟩ [46] || sgn ⟨4, s, pp, l, q⟩ [33] || (sgn ⟨4, s, pp, l, q⟩ [45] && !b)) = !b by
      simp [sgn, ← eqT_list, hs]]
    have HO := hide HO
    go_enter Try.func25, Try.ntmps25
    go_wp2_with fail
    refine (unhide HO _).mono ?_
    rintro e W ⟨rfl, hw⟩
    go_wp2
    go_ret
    exact ⟨rfl, below3 (below3 (below_alloc _ _) (below_alloc _ _)) hw⟩
  · clear HO
    have hk' : sgn ⟨k, s, pp, l, q⟩ [45] = false := by
      simp only [sgn, ← eqT_list, Bool.and_eq_false_iff, decide_eq_false_iff_not, beq_eq_false_iff_ne]
      by_cases h : k = 4
      · exact .inr fun e => hk ⟨h, e⟩
      · exact .inl h
    rw [hk', Bool.false_and, Bool.or_false]
    by_cases h4 : k = 4
    · subst h4
      have hs : (s.toList == [45]) = false := by simpa [sgn, ← eqT_list] using hk'
      clear hk hk'
      go_enter Try.func25, Try.ntmps25
      go_wp2
      all_goals
        go_ret
        refine ⟨ret_bool ?_, below3 (below_alloc _ _) (below_alloc _ _)⟩
        simp_all [sgn, eqT, ByteArray.toList_eq]
    · clear hk hk'
      go_enter Try.func25, Try.ntmps25
      go_wp2
      go_ret
      exact ⟨ret_bool (by simp [sgn, h4]), below3 (below_alloc _ _) (below_alloc _ _)⟩
end Go.Proofs.Ytmapohaobinjjaa

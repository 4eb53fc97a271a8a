/-
  append of one token, or one comment, to the call's own slice.
-/
import Derived.Test.YtmhkmmcicfpakaaScanSt
namespace Go.Proofs.Ytmhkmmcicfpakaa
open Go.RowKit
theorem Try.info36 : (Try.prog.info? 36).map (fun i => (i.zero, i.size, i.bytes)) = some (some (.agg #[.int .i64 0, .string ⟨#[]⟩, .int .i64 0, .int .i64 0, .bool false]), 5, 48) := by kernel_rfl
theorem Try.info34 : (Try.prog.info? 34).map (fun i => (i.zero, i.size, i.bytes)) = some (some (.agg #[.string ⟨#[]⟩, .int .i64 0, .int .i64 0, .int .i64 0]), 4, 40) := by kernel_rfl
theorem one_tok (t : Tk) : ∀ u ∈ t.cells, u.oneCell' = true := by
  intro u hu
  simp only [Tk.cells, List.mem_cons, List.not_mem_nil, or_false] at hu
  rcases hu with rfl | rfl | rfl | rfl | rfl <;> rfl
theorem one_com (t : Cm) : ∀ u ∈ t.cells, u.oneCell' = true := by
  intro u hu
  simp only [Cm.cells, List.mem_cons, List.not_mem_nil, or_false] at hu
  rcases hu with rfl | rfl | rfl | rfl <;> rfl
theorem new_tok (w : World) (t : Tk) (fr : Nat × Nat) : ∀ (j : Nat) (u : Value), t.cells[j]? = some u → (w.alloc (.cells #[.int .i64 t.k, .string t.s, .int .i64 t.p, .int .i64 t.l, .bool t.q] 36 fr)).cell? (Addr.add ⟨w.heap.size, 0, none⟩ j) = some u := by
  intro j u hj
  rw [show Addr.add ⟨w.heap.size, 0, none⟩ j = ⟨w.heap.size, j, none⟩ by simp [Addr.add]; omega, World.cell?_alloc_mark, List.getElem?_toArray]
  exact hj
theorem new_com (w : World) (t : Cm) (fr : Nat × Nat) : ∀ (j : Nat) (u : Value), t.cells[j]? = some u → (w.alloc (.cells #[.string t.s, .int .i64 t.p, .int .i64 t.l, .int .i64 t.n] 34 fr)).cell? (Addr.add ⟨w.heap.size, 0, none⟩ j) = some u := by
  intro j u hj
  rw [show Addr.add ⟨w.heap.size, 0, none⟩ j = ⟨w.heap.size, j, none⟩ by simp [Addr.add]; omega, World.cell?_alloc_mark, List.getElem?_toArray]
  exact hj
theorem wp_append_tok {w : World} {o : Oper} {a : Act} {K : Act → World → Prop} {Q : Exit → Act → World → Prop} (s x : Operand)
    (ho : o.op = .call { callee := .builtin .append, args := #[s, x], argTypes := #[28, 28] })
    {base : Nat} {v : Value} {l : List Tk} (t : Tk) (hs : a.eval s = v) (hown : OwnT w base v l) (ad : Addr) (hx : a.eval x = .slice (some ad) 1 1)
    (hnews : ∀ (j : Nat) (u : Value), t.cells[j]? = some u → w.cell? (ad.add j) = some u) (hl : l.length ≤ 1000000) (hbase : base ≤ w.heap.size)
    (h : ∀ v' w', OwnT w' base v' (l ++ [t]) → w.grownBy w' v.ownBlock → K (a.put o.dst v') w') : o.wp Try.prog a w K Q := by
  obtain ⟨i0, hi, hz0, hz1, hz2⟩ := info_parts Try.info36
  refine wp_append_own_wide w s x 28 ho base 36 i0 _ 5 48 Try.underlying28 hi hz0 hz1 hz2 rfl (by decide) v l.length (toksC l) hs hown ad 1 1 t.cells hx rfl hnews (one_tok t) (by unfold maxLen; omega) (by omega) hbase ?_
  intro v' w' h1 h2 _
  refine h v' w' ?_ h2
  unfold OwnT
  rw [toksC_snoc, List.length_append]
  exact h1
theorem wp_append_com {w : World} {o : Oper} {a : Act} {K : Act → World → Prop} {Q : Exit → Act → World → Prop} (s x : Operand)
    (ho : o.op = .call { callee := .builtin .append, args := #[s, x], argTypes := #[29, 29] })
    {base : Nat} {v : Value} {l : List Cm} (t : Cm) (hs : a.eval s = v) (hown : OwnC w base v l) (ad : Addr) (hx : a.eval x = .slice (some ad) 1 1)
    (hnews : ∀ (j : Nat) (u : Value), t.cells[j]? = some u → w.cell? (ad.add j) = some u) (hl : l.length ≤ 1000000) (hbase : base ≤ w.heap.size)
    (h : ∀ v' w', OwnC w' base v' (l ++ [t]) → w.grownBy w' v.ownBlock → K (a.put o.dst v') w') : o.wp Try.prog a w K Q := by
  obtain ⟨i0, hi, hz0, hz1, hz2⟩ := info_parts Try.info34
  refine wp_append_own_wide w s x 29 ho base 34 i0 _ 4 40 Try.underlying29 hi hz0 hz1 hz2 rfl (by decide) v l.length (comsC l) hs hown ad 1 1 t.cells hx rfl hnews (one_com t) (by unfold maxLen; omega) (by omega) hbase ?_
  intro v' w' h1 h2 _
  refine h v' w' ?_ h2
  unfold OwnC
  rw [comsC_snoc, List.length_append]
  exact h1
/-- A scanner whose tokens were appended to, and stored. -/
theorem sc_stored {w w' : World} {base g : Nat} {s : ByteArray} {p line : Nat} {vl vc v' : Value} {l l' : List Tk} {c : List Cm} (h0 : w.heap[g]? = some (scObj s p line vl vc)) (h1 : OwnT w base vl l) (h2 : OwnC w base vc c) (h3 : base ≤ g)
    (hown : OwnT w' base v' l') (hg : w.grownBy w' vl.ownBlock) : ScSt (w'.setCell ⟨g, 3, none⟩ v') base g s ⟨p, line, l', c⟩ ∧ w'.heap[g]? = some (scObj s p line vl vc) := by
  have hb : w'.heap[g]? = some (scObj s p line vl vc) := (hg.block g (Array.getElem?_eq_some_iff.1 h0).1 (fun e => own_apart h1 (show 36 ≠ 50 by decide) g e.symm _ h0)).trans h0
  have hc : OwnC w' base vc c := own_grown h2 hg (own_apart h1 (show 36 ≠ 34 by decide))
  have hn : ∀ (e : Nat), e ≠ 50 → ∀ cur, w'.heap[(⟨g, 3, none⟩ : Addr).block]? ≠ some (Obj.cells cur e (0, 0)) := fun e he cur hk => by
    rw [show w'.heap[(⟨g, 3, none⟩ : Addr).block]? = some (scObj s p line vl vc) from hb] at hk
    simp only [scObj, Option.some.injEq, Obj.cells.injEq] at hk
    exact he hk.2.1.symm
  exact ⟨⟨v', vc, Joins.block_setCell (i := 3) hb v', own_set hown _ _ (hn _ (by decide)), own_set hc _ _ (hn _ (by decide)), h3⟩, hb⟩
theorem sc_stored_com {w w' : World} {base g : Nat} {s : ByteArray} {p line : Nat} {vl vc v' : Value} {l : List Tk} {c c' : List Cm} (h0 : w.heap[g]? = some (scObj s p line vl vc)) (h1 : OwnT w base vl l) (h2 : OwnC w base vc c) (h3 : base ≤ g)
    (hown : OwnC w' base v' c') (hg : w.grownBy w' vc.ownBlock) : ScSt (w'.setCell ⟨g, 4, none⟩ v') base g s ⟨p, line, l, c'⟩ ∧ w'.heap[g]? = some (scObj s p line vl vc) := by
  have hb : w'.heap[g]? = some (scObj s p line vl vc) := (hg.block g (Array.getElem?_eq_some_iff.1 h0).1 (fun e => own_apart h2 (show 34 ≠ 50 by decide) g e.symm _ h0)).trans h0
  have hc : OwnT w' base vl l := own_grown h1 hg (own_apart h2 (show 34 ≠ 36 by decide))
  have hn : ∀ (e : Nat), e ≠ 50 → ∀ cur, w'.heap[(⟨g, 4, none⟩ : Addr).block]? ≠ some (Obj.cells cur e (0, 0)) := fun e he cur hk => by
    rw [show w'.heap[(⟨g, 4, none⟩ : Addr).block]? = some (scObj s p line vl vc) from hb] at hk
    simp only [scObj, Option.some.injEq, Obj.cells.injEq] at hk
    exact he hk.2.1.symm
  exact ⟨⟨vl, v', Joins.block_setCell (i := 4) hb v', own_set hc _ _ (hn _ (by decide)), own_set hown _ _ (hn _ (by decide)), h3⟩, hb⟩
/-- A scanner's place, or its line, stored. -/
theorem sc_moved {w : World} {base g : Nat} {s : ByteArray} {x : Sc} (h : ScSt w base g s x) (q : Nat) : ScSt (w.setCell ⟨g, 1, none⟩ (.int .i64 q)) base g s ⟨q, x.line, x.l, x.c⟩ ∧ ScSt (w.setCell ⟨g, 2, none⟩ (.int .i64 q)) base g s ⟨x.p, q, x.l, x.c⟩ := by
  obtain ⟨vl, vc, h0, h1, h2, h3⟩ := h
  have hn : ∀ (i e : Nat), e ≠ 50 → ∀ cur, w.heap[(⟨g, i, none⟩ : Addr).block]? ≠ some (Obj.cells cur e (0, 0)) := fun i e he cur hk => by
    rw [show w.heap[(⟨g, i, none⟩ : Addr).block]? = some (scObj s x.p x.line vl vc) from h0] at hk
    simp only [scObj, Option.some.injEq, Obj.cells.injEq] at hk
    exact he hk.2.1.symm
  exact ⟨⟨vl, vc, Joins.block_setCell (i := 1) h0 _, own_set h1 _ _ (hn _ _ (by decide)), own_set h2 _ _ (hn _ _ (by decide)), h3⟩, ⟨vl, vc, Joins.block_setCell (i := 2) h0 _, own_set h1 _ _ (hn _ _ (by decide)), own_set h2 _ _ (hn _ _ (by decide)), h3⟩⟩
end Go.Proofs.Ytmhkmmcicfpakaa

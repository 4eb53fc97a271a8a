/-
  Scopes: the law's own list of names, how deep each was declared (no program).
-/
import Derived.Test.YtlmfoieolomcfaaSpIntL
namespace Go.Proofs.Ytlmfoieolomcfaa
open Go.RowKit Go.Maps Go.Lib Go.WideMaps
set_option linter.unusedSimpArgs false
set_option linter.unusedVariables false
structure LE where
  n : ByteArray
  d : Int
  t : Int
/-- How many scopes begin at k or ahead of it, and the outermost one. -/
def dep (bs : List Nat) (k : Nat) : Nat := (bs.filter fun b => decide (b ≤ k)).length + 1
def lOf (es : List En) (bs : List Nat) : List LE := es.mapIdx fun k e => ⟨e.n, dep bs k, e.f⟩
theorem lOf_len (es : List En) (bs : List Nat) : (lOf es bs).length = es.length := by simp [lOf]
theorem lOf_at (es : List En) (bs : List Nat) (k : Nat) (h : k < es.length) : (lOf es bs)[k]? = some ⟨es[k].n, dep bs k, es[k].f⟩ := by
  unfold lOf
  rw [List.getElem?_mapIdx, List.getElem?_eq_getElem h]
  rfl
theorem dep_le (bs : List Nat) (k : Nat) : dep bs k ≤ bs.length + 1 := by
  unfold dep
  have := List.length_filter_le (fun b => decide (b ≤ k)) bs
  omega
theorem dep_all {bs : List Nat} (k : Nat) (h : ∀ b ∈ bs, b ≤ k) : dep bs k = bs.length + 1 := by
  unfold dep
  rw [List.filter_eq_self.2 (fun b hb => by simpa using h b hb)]
theorem dep_iff {bs : List Nat} (h : bs.Pairwise (· ≤ ·)) (k : Nat) : dep bs k = bs.length + 1 ↔ beg bs ≤ k := by
  constructor
  · intro hd
    by_cases hb : bs = []
    · subst hb; simp [beg]
    · unfold dep at hd
      have h1 : (bs.filter fun b => decide (b ≤ k)).length = bs.length := by omega
      have h2 := List.length_filter_eq_length_iff.1 h1 (beg bs) (beg_mem hb)
      simpa using h2
  · intro hk
    exact dep_all k fun b hb => Nat.le_trans (le_beg h b hb) hk
theorem dep_push (bs : List Nat) (b k : Nat) (h : k < b) : dep (bs ++ [b]) k = dep bs k := by
  unfold dep
  rw [List.filter_append]
  have : ([b].filter fun b => decide (b ≤ k)) = [] := by simp; omega
  rw [this, List.append_nil]
theorem lOf_push (es : List En) (bs : List Nat) : lOf es (bs ++ [es.length]) = lOf es bs := by
  apply List.ext_getElem?
  intro k
  by_cases hk : k < es.length
  · rw [lOf_at _ _ k hk, lOf_at _ _ k hk, dep_push _ _ _ hk]
  · rw [List.getElem?_eq_none (by rw [lOf_len]; omega), List.getElem?_eq_none (by rw [lOf_len]; omega)]
theorem lOf_pop (es : List En) (bs : List Nat) (b : Nat) (h : b ≤ es.length) : lOf (es.take b) bs = (lOf es (bs ++ [b])).take b := by
  apply List.ext_getElem?
  intro k
  by_cases hk : k < b
  · rw [List.getElem?_take, if_pos hk, lOf_at es (bs ++ [b]) k (by omega), lOf_at (es.take b) bs k (by simp; omega), dep_push _ _ _ hk, List.getElem_take]
  · rw [List.getElem?_eq_none (by rw [lOf_len]; simp; omega), List.getElem?_eq_none (by rw [List.length_take, lOf_len]; omega)]
theorem lOf_add (es : List En) (bs : List Nat) (e : En) (h : ∀ b ∈ bs, b ≤ es.length) : lOf (es ++ [e]) bs = lOf es bs ++ [⟨e.n, (bs.length + 1 : Nat), e.f⟩] := by
  apply List.ext_getElem?
  intro k
  by_cases hk : k < es.length
  · rw [List.getElem?_append_left (by rw [lOf_len]; exact hk), lOf_at _ _ k hk, lOf_at _ _ k (by simp; omega), List.getElem_append_left hk]
  · by_cases hk2 : k = es.length
    · subst hk2
      rw [lOf_at _ _ _ (by simp), List.getElem?_append_right (by rw [lOf_len]; exact Nat.le_refl _), lOf_len, dep_all _ h]
      simp
    · rw [List.getElem?_eq_none (by rw [lOf_len]; simp; omega), List.getElem?_eq_none (by simp [lOf_len]; omega)]
/-- What the law finds among the first k: the last one of the name; the last one of the name and of this depth. -/
def hR (es : List En) (bs : List Nat) (s : ByteArray) (k : Nat) : Int := if (beg bs : Int) ≤ plc s (es.take k) then plc s (es.take k) else -1
theorem sR_step (es : List En) (s : ByteArray) (k : Nat) (h : k < es.length) : plc s (es.take (k + 1)) = if es[k].n = s then (k : Int) else plc s (es.take k) := by
  rw [List.take_add_one, List.getElem?_eq_getElem h]
  show plc s (es.take k ++ [es[k]]) = _
  rw [plc_snoc, List.length_take, Nat.min_eq_left (by omega)]
theorem hR_step {es : List En} {bs : List Nat} (hb : bs.Pairwise (· ≤ ·)) (s : ByteArray) (k : Nat) (h : k < es.length) : hR es bs s (k + 1) = if es[k].n = s ∧ ((dep bs k : Nat) : Int) = ((bs.length + 1 : Nat) : Int) then (k : Int) else hR es bs s k := by
  have hd := dep_iff hb k
  have hp := (plc_lt s (es.take k)).1
  simp only [List.length_take] at hp
  unfold hR
  rw [sR_step es s k h]
  by_cases hn : es[k].n = s
  · simp only [hn, if_true, true_and]
    by_cases h2 : beg bs ≤ k
    · rw [if_pos (by omega), if_pos (by have := hd.2 h2; omega)]
    · rw [if_neg (by omega), if_neg (fun e => h2 (hd.1 (by omega))), if_neg (by omega)]
  · simp only [hn, if_false, false_and]
theorem hR_end (es : List En) (bs : List Nat) (s : ByteArray) : hR es bs s es.length = if (beg bs : Int) ≤ plc s es then plc s es else -1 := by
  unfold hR
  rw [List.take_of_length_le (Nat.le_refl _)]
theorem LS.inv {w0 w : World} {g : Nat} {M : List Nat} {es : List En} {bs : List Nat} {q : Nat} (h : LS w0 w g M es bs q) : Inv es bs := by
  obtain ⟨_, _, S, ⟨ve, vb, mo, h3⟩, _⟩ := h
  exact h3.inv
theorem LS.few {w0 w : World} {g : Nat} {M : List Nat} {es : List En} {bs : List Nat} {q : Nat} (h : LS w0 w g M es bs q) : es.length ≤ q ∧ bs.length ≤ q := by
  obtain ⟨_, _, S, ⟨ve, vb, mo, h3⟩, _⟩ := h
  exact h3.few
/-- The law's own slice. -/
def LE.cells (e : LE) : List Value := [.string e.n, .int .i64 e.d, .int .i64 e.t]
def lesC (l : List LE) : List Value := l.flatMap LE.cells
theorem lesC_snoc (l : List LE) (e : LE) : lesC (l ++ [e]) = lesC l ++ e.cells := by simp [lesC]
theorem lesC_len (l : List LE) : (lesC l).length = l.length * 3 := by
  induction l with
  | nil => rfl
  | cons t l ih => simp only [lesC, List.flatMap_cons, List.length_append, List.length_cons] at *; rw [ih]; simp only [LE.cells, List.length_cons, List.length_nil]; omega
theorem lesC_at : ∀ (L : List LE) (i j : Nat), j < 3 → (lesC L)[i * 3 + j]? = (L[i]?).bind fun t => t.cells[j]? := by
  intro L
  induction L with
  | nil => intro i j _; simp [lesC]
  | cons t L ih =>
    intro i j hj
    have hl : t.cells.length = 3 := rfl
    show (t.cells ++ lesC L)[i * 3 + j]? = _
    cases i with
    | zero => rw [List.getElem?_append_left (by omega)]; simp
    | succ i =>
      rw [List.getElem?_append_right (by omega), hl, show (i + 1) * 3 + j - 3 = i * 3 + j by omega, ih i j hj]
      simp
theorem lesC_take (l : List LE) (k : Nat) : lesC (l.take k) = (lesC l).take (k * 3) := by
  induction l generalizing k with
  | nil => simp [lesC]
  | cons t l ih =>
    cases k with
    | zero => simp [lesC]
    | succ k =>
      show LE.cells t ++ lesC (l.take k) = (LE.cells t ++ lesC l).take ((k + 1) * 3)
      have hl : t.cells.length = 3 := rfl
      rw [ih, List.take_append, List.take_of_length_le (l := t.cells) (by rw [hl]; omega), hl, show (k + 1) * 3 - 3 = k * 3 by omega]
theorem one_le (e : LE) : ∀ u ∈ e.cells, u.oneCell' = true := by
  intro u hu
  simp only [LE.cells, List.mem_cons, List.not_mem_nil, or_false] at hu
  rcases hu with rfl | rfl | rfl <;> rfl
theorem new_le (w : World) (e : LE) (fr : Nat × Nat) : ∀ (j : Nat) (u : Value), e.cells[j]? = some u → (w.alloc (.cells #[.string e.n, .int .i64 e.d, .int .i64 e.t] 31 fr)).cell? (Addr.add ⟨w.heap.size, 0, none⟩ j) = some u := by
  intro j u hj
  rw [show Addr.add ⟨w.heap.size, 0, none⟩ j = ⟨w.heap.size, j, none⟩ by simp [Addr.add]; omega, World.cell?_alloc_mark, List.getElem?_toArray]
  exact hj
theorem Try.info31 : (Try.prog.info? 31).map (fun i => (i.zero, i.size, i.bytes)) = some (some (.agg #[.string ⟨#[]⟩, .int .i64 0, .int .i64 0]), 3, 32) := by kernel_rfl
def OwnLE (w : World) (B : Nat) (v : Value) (l : List LE) : Prop := w.ownsRow B 31 3 v l.length (lesC l)
theorem ownLE_nil (w : World) (B : Nat) : OwnLE w B (.slice none 0 0) [] := World.ownsRow_nil _ _ _ _
theorem OwnLE.same {w w' : World} {B : Nat} {v : Value} {l : List LE} {M : List Nat} (h : OwnLE w B v l) (hm : ∀ k, v.ownBlock = some k → k ∈ M) (hs : SameM M w w') : OwnLE w' B v l := ownsRow_keep h fun k hk => hs.2 k (hm k hk)
theorem OwnLE.at {w : World} {B : Nat} {v : Value} {es : List LE} (h : OwnLE w B v es) (i : Nat) (hi : i < es.length) : ∃ z c, v = .slice (some ⟨z, 0, none⟩) es.length c ∧ B ≤ z ∧ z < w.heap.size ∧ es.length ≤ c ∧ c ≤ maxLen ∧ w.cell? ⟨z, i * 3, none⟩ = some (.string es[i].n) ∧ w.cell? ⟨z, i * 3 + 1, none⟩ = some (.int .i64 es[i].d) ∧ w.cell? ⟨z, i * 3 + 2, none⟩ = some (.int .i64 es[i].t) := by
  obtain ⟨z, c, h1, h2, h3, h4, h5, h6⟩ := own_cell h (by omega)
  have hc : ∀ j, j < 3 → w.cell? ⟨z, i * 3 + j, none⟩ = es[i].cells[j]? := fun j hj => by
    rw [h6 (i * 3 + j) (by omega), lesC_at es i j hj, List.getElem?_eq_getElem hi]; rfl
  exact ⟨z, c, h1, h2, h3, h4, h5, hc 0 (by omega), hc 1 (by omega), hc 2 (by omega)⟩
theorem wpList_app_le {w0 w : World} {ops : Array Oper} {rest : List Oper} {o : Oper} {a : Act} {Q : Exit → Act → World → Prop} (hgd : o.guard = none) (s x : Operand)
    (ho : o.op = .call { callee := .builtin .append, args := #[s, x], argTypes := #[26, 26] })
    {g : Nat} {es : List En} {bs : List Nat} {q : Nat} (v : Value) (xs : List LE) (e : LE) (hown : OwnLE w w0.heap.size v xs) (hL : LS w0 w g v.ownBlock.toList es bs q) (hs : a.eval s = v) (hl : xs.length ≤ 1000)
    (hx : a.eval x = .slice (some ⟨w.heap.size, 0, none⟩) 1 1)
    (K : ∀ v' w', OwnLE w' w0.heap.size v' (xs ++ [e]) → LS w0 w' g v'.ownBlock.toList es bs q → wpList Try.prog ops Q rest (a.put o.dst v') w') :
    wpList Try.prog ops Q (o :: rest) a (w.alloc (.cells #[.string e.n, .int .i64 e.d, .int .i64 e.t] 31)) := by
  obtain ⟨i0, hi, hz0, hz1, hz2⟩ := info_parts Try.info31
  refine wpList_append_lies (w.alloc (.cells #[.string e.n, .int .i64 e.d, .int .i64 e.t] 31)) hgd _ _ 26 ho w0.heap.size 31 i0 _ 3 32 Try.underlying26 hi hz0 hz1 hz2 rfl (by decide) v xs.length _ hs (World.ownsRow.alloc hown _) ⟨w.heap.size, 0, none⟩ 1 1 e.cells hx rfl (new_le w e (0, 0)) (one_le e) (by omega) (by unfold maxLen; omega) (by omega) (by have := hL.1.size; simp; omega) _ rfl ?_
  intro gn cap w' h1 h2 h3 h4
  have hown' : OwnLE w' w0.heap.size (.slice (some ⟨gn, 0, none⟩) (xs.length + 1) cap) (xs ++ [e]) := by
    unfold OwnLE
    rw [lesC_snoc, List.length_append]
    exact h1
  refine K _ w' hown' (hL.app hown h2 (fun k hk => ?_) hown')
  have e1 : gn = k := by simpa [Value.ownBlock] using hk
  subst e1
  rcases h3 with h3 | h3
  · exact .inl h3
  · exact .inr (by rw [h3]; simp)
end Go.Proofs.Ytlmfoieolomcfaa

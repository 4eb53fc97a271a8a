/-
  A row of edits that the call made and writes; append of many.
-/
import Derived.Test.YtpjpghigilbfaaaOwnEd
import Derived.Test.YtpjpghigilbfaaaMgMath
import Derived.Laws.AppendOwnNone
import Derived.Shelf.GgSortFunc.RowK
import Derived.Shelf.GgSortFunc.InsertionK
import Derived.Sort.OwnSorted
namespace Go.Proofs.Ytpjpghigilbfaaa
open Go.RowKit Go.Sort
set_option linter.unusedSimpArgs false
set_option linter.unusedVariables false
/-- Block g is a row of edits that begins with these; it has room for cap. -/
def RowE (w : World) (g cap : Nat) (L : List Ed) : Prop :=
  ∃ cur : Array Value, w.heap[g]? = some (.cells cur 29 (0, 0)) ∧ cur.size = cap * 3 ∧ L.length ≤ cap ∧ cap ≤ maxLen ∧ cur.toList.take (L.length * 3) = edsC L
theorem RowE.lt {w : World} {g cap : Nat} {L : List Ed} (h : RowE w g cap L) : g < w.heap.size := by
  obtain ⟨cur, hg, _⟩ := h
  exact (Array.getElem?_eq_some_iff.1 hg).1
theorem RowE.room {w : World} {g cap : Nat} {L : List Ed} (h : RowE w g cap L) : L.length ≤ cap ∧ cap ≤ maxLen := by
  obtain ⟨cur, hg, h1, h2, h3, _⟩ := h
  exact ⟨h2, h3⟩
theorem RowE.own {w : World} {g cap base : Nat} {L : List Ed} (h : RowE w g cap L) (hb : base ≤ g) : OwnE w base (.slice (some ⟨g, 0, none⟩) L.length cap) L := by
  obtain ⟨cur, hg, h1, h2, h3, h4⟩ := h
  exact ⟨edsC_len L, .inr ⟨g, cap, cur, rfl, hb, hg, h2, h3, h1, h4⟩⟩
theorem OwnE.forms {w : World} {base : Nat} {v : Value} {L : List Ed} (h : OwnE w base v L) : (v = .slice none 0 0 ∧ L = []) ∨ ∃ g cap, v = .slice (some ⟨g, 0, none⟩) L.length cap ∧ base ≤ g ∧ RowE w g cap L := by
  rcases h.2 with ⟨h1, h2⟩ | ⟨g, cap, cur, hv, hb, hg, hnc, hcm, hcs, ht⟩
  · exact .inl ⟨h1, List.eq_nil_of_length_eq_zero h2⟩
  · exact .inr ⟨g, cap, hv, hb, cur, hg, hcs, hnc, hcm, ht⟩
theorem RowE.eds {w : World} {g cap : Nat} {L : List Ed} (h : RowE w g cap L) : Eds w (.slice (some ⟨g, 0, none⟩) L.length cap) L := own_eds (h.own (Nat.zero_le g))
theorem RowE.cell {w : World} {g cap : Nat} {L : List Ed} (h : RowE w g cap L) (j : Nat) (hj : j < L.length * 3) : w.cell? ⟨g, j, none⟩ = (edsC L)[j]? := World.ownsRow.cellAt (h.own (Nat.zero_le g)) j hj
theorem RowE.frozen {w : World} {g cap : Nat} {L : List Ed} (h : RowE w g cap L) (j : Nat) : w.frozen? ⟨g, j, none⟩ = false := World.ownsRow.frozenAt (h.own (Nat.zero_le g)) j
theorem RowE.at {w : World} {g cap : Nat} {L : List Ed} (h : RowE w g cap L) (i : Nat) (hi : i < L.length) : EdAt w g (i * 3) (L.getD i ed0) := by
  have ht : L[i]? = some (L.getD i ed0) := by simp [List.getD, hi]
  have hc : ∀ j, j < 3 → w.cell? ⟨g, i * 3 + j, none⟩ = (L.getD i ed0).cells[j]? := fun j hj => by
    rw [h.cell _ (by omega), edsC_at L i j hj, ht]; rfl
  exact ⟨hc 0 (by omega), hc 1 (by omega), hc 2 (by omega)⟩
theorem RowE.take {w : World} {g cap : Nat} {L : List Ed} (h : RowE w g cap L) (k : Nat) : RowE w g cap (L.take k) := by
  obtain ⟨cur, hg, h1, h2, h3, h4⟩ := h
  refine ⟨cur, hg, h1, by simp; omega, h3, ?_⟩
  have e : edsC (L.take k) = (edsC L).take ((L.take k).length * 3) := by
    conv => rhs; rw [← List.take_append_drop k L, edsC, List.flatMap_append]
    rw [List.take_left' (by have := edsC_len (L.take k); rw [edsC] at this; rw [this, List.take_append_drop])]
    rfl
  rw [e, ← h4, List.take_take]
  congr 1
  have : (L.take k).length ≤ L.length := by simp; omega
  omega
theorem RowE.below {w w' : World} {g cap : Nat} {L : List Ed} (h : RowE w g cap L) (hb : Below w.heap.size w w') : RowE w' g cap L := by
  have hl := h.lt
  obtain ⟨cur, hg, h1⟩ := h
  exact ⟨cur, by rw [hb.block g hl]; exact hg, h1⟩
theorem RowE.grown {w : World} {g cap : Nat} {L : List Ed} (h : RowE w g cap L) (n : Nat) (os : Array Obj) : RowE (Sort.grow (w.drewN n) os) g cap L := by
  have hl := h.lt
  obtain ⟨cur, hg, h1⟩ := h
  exact ⟨cur, by rw [heap_grow_old _ _ (by exact hl)]; exact hg, h1⟩
theorem set_edsC (L : List Ed) (i : Nat) (e : Ed) (hi : i < L.length) : (((edsC L).set (i * 3) (.int .i64 e.p)).set (i * 3 + 1) (.int .i64 e.n)).set (i * 3 + 2) (.string e.s) = edsC (L.set i e) := by
  apply List.ext_getElem?
  intro t
  have hl := edsC_len L
  have hl2 : (edsC (L.set i e)).length = L.length * 3 := by rw [edsC_len, List.length_set]
  by_cases ht : t < L.length * 3
  · obtain ⟨q, r, rfl, hr⟩ : ∃ q r, t = q * 3 + r ∧ r < 3 := ⟨t / 3, t % 3, by omega, by omega⟩
    rw [edsC_at _ q r hr, List.getElem?_set, List.getElem?_set, List.getElem?_set, List.getElem?_set]
    simp only [List.length_set, hl]
    by_cases hq : i = q
    · subst hq
      rw [if_pos rfl, if_pos hi]
      match r, hr with
      | 0, _ => rw [if_neg (by omega), if_neg (by omega), if_pos (by omega), if_pos (by omega)]; rfl
      | 1, _ => rw [if_neg (by omega), if_pos (by omega), if_pos (by omega)]; rfl
      | 2, _ => rw [if_pos (by omega), if_pos (by omega)]; rfl
    · rw [if_neg (by omega), if_neg (by omega), if_neg (by omega), if_neg hq, edsC_at _ q r hr]
  · rw [List.getElem?_eq_none (by simp [hl]; omega), List.getElem?_eq_none (by omega)]
theorem RowE.set {w : World} {g cap : Nat} {L : List Ed} (h : RowE w g cap L) (i : Nat) (e : Ed) (hi : i < L.length) : RowE (w.setCells g (i * 3) e.cells) g cap (L.set i e) := by
  obtain ⟨cur, hg, h1, h2, h3, h4⟩ := h
  refine ⟨((cur.setIfInBounds (i * 3) (.int .i64 e.p)).setIfInBounds (i * 3 + 1) (.int .i64 e.n)).setIfInBounds (i * 3 + 2) (.string e.s), ?_, by simp [h1], by simpa using h2, h3, ?_⟩
  · simp only [Ed.cells, World.setCells]
    exact Joins.block_setCell (Joins.block_setCell (Joins.block_setCell hg _) _) _
  · rw [List.length_set, Array.toList_setIfInBounds, Array.toList_setIfInBounds, Array.toList_setIfInBounds, List.take_set, List.take_set, List.take_set, h4]
    exact set_edsC L i e hi
theorem below_set {B g i : Nat} {a w : World} (h : Below B a w) (hg : B ≤ g) (e : Ed) : Below B a (w.setCells g i e.cells) := by
  simp only [Ed.cells, World.setCells]
  exact ((h.setCell (p := ⟨g, i, none⟩) hg _).setCell (p := ⟨g, i + 1, none⟩) hg _).setCell (p := ⟨g, i + 1 + 1, none⟩) hg _
/-- The flat row. -/
theorem flat_edsC (L : List Ed) : (flatK Ed.cells 3 L.toArray).toList = edsC L := by
  apply List.ext_getElem?
  intro t
  have hl := edsC_len L
  by_cases ht : t < L.length * 3
  · obtain ⟨q, r, rfl, hr⟩ : ∃ q r, t = q * 3 + r ∧ r < 3 := ⟨t / 3, t % 3, by omega, by omega⟩
    have hq : q < L.length := by omega
    rw [edsC_at L q r hr, Array.getElem?_toList, Array.getElem?_eq_getElem (by simpa using ht)]
    have := get_flatK Ed.cells 3 L.toArray (q * 3 + r) (by simpa using ht)
    rw [getElem!_pos _ _ (by simpa using ht)] at this
    rw [this, show (q * 3 + r) / 3 = q by omega, show (q * 3 + r) % 3 = r by omega]
    simp only [List.getElem?_eq_getElem hq, Option.bind_some]
    have e1 : L.toArray[q]! = L[q] := by simp [getElem!_pos, hq]
    rw [e1]
    match r, hr with
    | 0, _ => rfl
    | 1, _ => rfl
    | 2, _ => rfl
  · rw [List.getElem?_eq_none (by simp; omega), List.getElem?_eq_none (by omega)]
theorem RowE.holds {w : World} {g cap : Nat} {L : List Ed} (h : RowE w g cap L) : HoldsK Ed.cells 3 w g 0 L.toArray := by
  intro j hj
  have hj' : j < L.length * 3 := by simpa using hj
  refine ⟨?_, h.frozen _⟩
  rw [Nat.zero_add, h.cell j hj', ← flat_edsC, Array.getElem?_toList, Array.getElem?_eq_getElem hj, getElem!_pos _ j hj]
  rfl
theorem heap_putRow {w : World} {g n : Nat} {cur : Array Value} {e : TypeId} {fr : Nat × Nat} {os : Array Obj} {F : Array Value} (hg : w.heap[g]? = some (.cells cur e fr)) : (Sort.grow (putRow id (Sort.ahead w n) g 0 F) os).heap[g]? = some (.cells (putCells id 0 F cur) e fr) := by
  have hl : g < w.heap.size := (Array.getElem?_eq_some_iff.1 hg).1
  rw [heap_grow_old _ _ (by simpa using hl)]
  simp [putRow, mapBlock, Sort.ahead, Array.getElem?_modify, hg, onCells]
theorem take_put (F cur : Array Value) (h : F.size ≤ cur.size) : (putCells id 0 F cur).toList.take F.size = F.toList := by
  apply List.ext_getElem?
  intro j
  by_cases hj : j < F.size
  · rw [List.getElem?_take_of_lt hj, Array.getElem?_toList]
    simp [putCells, hj, show j < cur.size by omega, getElem!_pos]
  · rw [List.getElem?_take_eq_none (by omega), List.getElem?_eq_none (by simp; omega)]
theorem RowE.sortWorld {w : World} {g cap : Nat} {L M : List Ed} (h : RowE w g cap L) (hl : M.length = L.length) (n : Nat) (os : Array Obj) : RowE (sortWorldK Ed.cells 3 w g 0 n M.toArray os) g cap M := by
  obtain ⟨cur, hg, h1, h2, h3, h4⟩ := h
  refine ⟨putCells id 0 (flatK Ed.cells 3 M.toArray) cur, heap_putRow hg, by simp [putCells, h1], by omega, h3, ?_⟩
  have hs : (flatK Ed.cells 3 M.toArray).size = M.length * 3 := by simp
  rw [← hs, take_put _ _ (by rw [hs, h1]; omega), flat_edsC]
theorem grown_sortWorld {w : World} {g : Nat} (M : List Ed) (n : Nat) (os : Array Obj) : w.grownBy (sortWorldK Ed.cells 3 w g 0 n M.toArray os) (some g) := by
  refine ⟨rfl, rfl, rfl, by simp [sortWorldK, putRowK], fun k hk hne => ?_⟩
  show (Sort.grow (putRow id (Sort.ahead w n) g 0 (flatK Ed.cells 3 M.toArray)) os).heap[k]? = _
  rw [heap_grow_old _ _ (by simpa using hk)]
  have : g ≠ k := fun e => hne (by rw [e])
  simp [putRow, mapBlock, Sort.ahead, Array.getElem?_modify, this]
theorem grown_refl (w : World) (row : Option Nat) : w.grownBy w row := ⟨rfl, rfl, rfl, Nat.le_refl _, fun _ _ _ => rfl⟩
/-- append(own, edits...). -/
theorem run_append_eds (w : World) (base : Nat) (ty : TypeId) (v : Value) (L : List Ed) (hown : OwnE w base v L) (vx : Value) (M : List Ed) (hB : Eds w vx M) (hN : ∀ c, vx = .slice none 0 c → c = 0)
    (h47 : L.length + M.length ≤ 1000000) (hbase : base ≤ w.heap.size) :
    ∃ v' w', (Builtin.append_ #[22, 22] ty #[v, vx]).run Try.prog w = .ok v' w' ∧ OwnE w' base v' (L ++ M) ∧ w.grownBy w' v.ownBlock := by
  obtain ⟨i0, hi, hz0, hz1, hz2⟩ := info_parts Try.info29
  obtain ⟨a, c, rfl, h1, h2, h3⟩ := hB
  cases M with
  | nil =>
    cases a with
    | none =>
      obtain rfl := hN c rfl
      exact ⟨v, w, run_append_owned_none w base 22 ty 29 i0 3 Try.underlying22 hi v L.length (edsC L) hown, by simpa using hown, grown_refl w _⟩
    | some a =>
      obtain ⟨v', w', hr, h2, h3, _⟩ := run_append_own (P := Try.prog) w base 22 ty 29 i0 _ 3 32 Try.underlying22 hi hz0 hz1 hz2 rfl (by decide) v L.length (edsC L) hown a 0 c [] rfl (fun j u hj => by simp at hj) (fun u hu => by simp at hu) (by unfold maxLen; omega) (by omega) hbase
      exact ⟨v', w', hr, by simpa [OwnE] using h2, h3⟩
  | cons e M =>
    obtain ⟨g, off, rfl, hg, hc⟩ := h3 (by simp)
    have c1 : ∀ j u, (edsC (e :: M))[j]? = some u → w.cell? (Addr.add ⟨g, off, none⟩ j) = some u := by
      intro j u hj
      have hj' : j < (e :: M).length * 3 := by rw [← edsC_len]; exact (List.getElem?_eq_some_iff.1 hj).1
      obtain ⟨q, r, rfl, hr⟩ : ∃ q r, j = q * 3 + r ∧ r < 3 := ⟨j / 3, j % 3, by omega, by omega⟩
      have hq : q < (e :: M).length := by omega
      rw [edsC_at _ q r hr, List.getElem?_eq_getElem hq, Option.bind_some] at hj
      have hE : (e :: M).getD q ed0 = (e :: M)[q] := by rw [List.getD, List.getElem?_eq_getElem hq]; rfl
      obtain ⟨x0, x1, x2⟩ := hc q hq
      rw [hE] at x0 x1 x2
      rw [show Addr.add ⟨g, off, none⟩ (q * 3 + r) = ⟨g, off + q * 3 + r, none⟩ by simp [Addr.add, Nat.add_assoc]]
      rw [← hj]
      match r, hr with
      | 0, _ => exact x0
      | 1, _ => exact x1
      | 2, _ => exact x2
    have c2 : ∀ u ∈ edsC (e :: M), u.oneCell' = true := by
      intro u hu
      obtain ⟨d, _, hd⟩ := List.mem_flatMap.1 hu
      exact one_ed d u hd
    obtain ⟨v', w', hr, h2, h3, _⟩ := run_append_own (P := Try.prog) w base 22 ty 29 i0 _ 3 32 Try.underlying22 hi hz0 hz1 hz2 rfl (by decide) v L.length (edsC L) hown ⟨g, off, none⟩ (e :: M).length c (edsC (e :: M)) (edsC_len _) c1 c2 (by unfold maxLen; omega) (by omega) hbase
    refine ⟨v', w', hr, ?_, h3⟩
    unfold OwnE
    rw [List.length_append, show edsC (L ++ e :: M) = edsC L ++ edsC (e :: M) by simp [edsC]]
    exact h2
theorem wpList_append_eds (w : World) {ops : Array Oper} {rest : List Oper} {o : Oper} {a : Act} {Q : Exit → Act → World → Prop} (hgd : o.guard = none) (s x : Operand)
    (ho : o.op = .call { callee := .builtin .append, args := #[s, x], argTypes := #[22, 22] })
    (base : Nat) (v : Value) (L : List Ed) (hs : a.eval s = v) (hown : OwnE w base v L)
    (vx : Value) (M : List Ed) (hx : a.eval x = vx) (hB : Eds w vx M) (hN : ∀ c, vx = .slice none 0 c → c = 0)
    (h47 : L.length + M.length ≤ 1000000) (hbase : base ≤ w.heap.size)
    (h : ∀ v' w', OwnE w' base v' (L ++ M) → w.grownBy w' v.ownBlock → wpList Try.prog ops Q rest (a.put o.dst v') w') : wpList Try.prog ops Q (o :: rest) a w := by
  refine wpList_plain hgd fun K hK => ?_
  obtain ⟨v', w', hr, h2, h3⟩ := run_append_eds w base o.type v L hown vx M hB hN h47 hbase
  unfold Oper.wp execOp
  simp only [ho, resolve, invoke, builtin, Sem.run_bind, Sem.run_pure, Result.andThen_ok, List.map_toArray, List.map_cons, List.map_nil, hs, hx, hr]
  exact hK _ _ (h v' w' h2 h3)
theorem OwnE.notNil {w : World} {base : Nat} {v : Value} {L : List Ed} (h : OwnE w base v L) : ∀ c, v = .slice none 0 c → c = 0 := by
  rintro c rfl
  rcases h.forms with ⟨h1, _⟩ | ⟨g, cap, h1, _⟩
  · injection h1
  · injection h1 with h2; cases h2
end Go.Proofs.Ytpjpghigilbfaaa

/-
  Nodes of one's own slice; append; the library's Clone of nodes.
-/
import Derived.Test.YthnapcdanccohaaDoorNdPile
import Derived.Lib.SlBuf
namespace Go.Proofs.YthnapcdanccohaaDoor
open Go.RowKit Go.Lib Go.Sort
set_option linter.unusedSimpArgs false
set_option linter.unusedVariables false
/-- A node's value. -/
structure NV where
  k : Int
  t : Int
  a : Option Addr
  n : Nat
  c : Nat
def NV.cells (x : NV) : List Value := [.int .i64 x.k, .int .i64 x.t, .slice x.a x.n x.c]
def nvC (xs : List NV) : List Value := xs.flatMap NV.cells
theorem nvC_cons (x : NV) (xs : List NV) : nvC (x :: xs) = x.cells ++ nvC xs := rfl
theorem nvC_app (xs ys : List NV) : nvC (xs ++ ys) = nvC xs ++ nvC ys := by simp [nvC]
theorem nvC_len (xs : List NV) : (nvC xs).length = xs.length * 3 := by
  induction xs with
  | nil => rfl
  | cons x xs ih => rw [nvC_cons, List.length_append, ih, List.length_cons]; simp only [NV.cells, List.length_cons, List.length_nil]; omega
theorem one_nv (xs : List NV) : ∀ u ∈ nvC xs, u.oneCell' = true := by
  intro u hu
  obtain ⟨x, _, hx⟩ := List.mem_flatMap.1 hu
  simp only [NV.cells, List.mem_cons, List.not_mem_nil, or_false] at hx
  rcases hx with rfl | rfl | rfl <;> rfl
/-- These values are a forest. -/
def Reads (P : Nat → Prop) (w : World) : List NV → F → Prop
  | [], .nil => True
  | x :: xs, .cons k t c r => x.k = k ∧ x.t = t ∧ SlQ P w x.a x.n x.c c ∧ Reads P w xs r
  | _, _ => False
theorem Reads.len {P : Nat → Prop} {w : World} : ∀ {xs : List NV} {f : F}, Reads P w xs f → xs.length = f.len
  | [], .nil, _ => rfl
  | x :: xs, .cons k t c r, h => by simp only [List.length_cons, F.len]; rw [Reads.len h.2.2.2]
  | [], .cons _ _ _ _, h => h.elim
  | _ :: _, .nil, h => h.elim
theorem Reads.keep {P : Nat → Prop} {w w' : World} (hk : KeepQ P w w') : ∀ {xs : List NV} {f : F}, Reads P w xs f → Reads P w' xs f
  | [], .nil, _ => trivial
  | x :: xs, .cons k t c r, h => ⟨h.1, h.2.1, h.2.2.1.keep hk, Reads.keep hk h.2.2.2⟩
  | [], .cons _ _ _ _, h => h.elim
  | _ :: _, .nil, h => h.elim
theorem Reads.app {P : Nat → Prop} {w : World} : ∀ {xs ys : List NV} {f g : F}, Reads P w xs f → Reads P w ys g → Reads P w (xs ++ ys) (f.app g)
  | [], ys, .nil, g, _, h' => h'
  | x :: xs, ys, .cons k t c r, g, h, h' => ⟨h.1, h.2.1, h.2.2.1, Reads.app h.2.2.2 h'⟩
  | [], _, .cons _ _ _ _, _, h, _ => h.elim
  | _ :: _, _, .nil, _, h, _ => h.elim
theorem cells_of_nd {P : Nat → Prop} {w : World} : ∀ {f : F} {g o : Nat}, NdQ P w f g o → ∃ xs, Reads P w xs f ∧ ∀ j u, (nvC xs)[j]? = some u → w.cell? ⟨g, o + j, none⟩ = some u
  | .nil, g, o, _ => ⟨[], trivial, fun j u h => by simp [nvC] at h⟩
  | .cons k t c r, g, o, ⟨h0, h1, ⟨a, n, cap, h2, hs⟩, h4⟩ => by
    obtain ⟨xs, hr, hc⟩ := cells_of_nd h4
    refine ⟨⟨k, t, a, n, cap⟩ :: xs, ⟨rfl, rfl, hs, hr⟩, fun j u hj => ?_⟩
    rw [nvC_cons] at hj
    match j with
    | 0 => simp [NV.cells] at hj; subst hj; exact h0
    | 1 => simp [NV.cells] at hj; subst hj; exact h1
    | 2 => simp [NV.cells] at hj; subst hj; exact h2
    | j + 3 =>
      rw [List.getElem?_append_right (by simp [NV.cells])] at hj
      simp only [NV.cells, List.length_cons, List.length_nil, Nat.zero_add, Nat.reduceAdd, Nat.add_sub_cancel] at hj
      have := hc j u hj
      rw [show o + (j + 3) = o + 3 + j by omega]
      exact this
theorem nd_of_cells {P : Nat → Prop} {w : World} : ∀ {xs : List NV} {f : F} {g o : Nat}, Reads P w xs f → (∀ j u, (nvC xs)[j]? = some u → w.cell? ⟨g, o + j, none⟩ = some u) → NdQ P w f g o
  | [], .nil, _, _, _, _ => trivial
  | x :: xs, .cons k t c r, g, o, ⟨e1, e2, hs, hr⟩, hc => by
    subst e1 e2
    refine ⟨hc 0 _ rfl, hc 1 _ rfl, ⟨x.a, x.n, x.c, hc 2 _ rfl, hs⟩, nd_of_cells hr fun j u hj => ?_⟩
    have := hc (j + 3) u (by
      rw [nvC_cons, List.getElem?_append_right (by simp [NV.cells])]
      simpa [NV.cells] using hj)
    rw [show o + 3 + j = o + (j + 3) by omega]
    exact this
  | [], .cons _ _ _ _, _, _, h, _ => h.elim
  | _ :: _, .nil, _, _, h, _ => h.elim
/-- Nodes of one's own slice. -/
def OwnN (w : World) (base : Nat) (v : Value) (xs : List NV) : Prop := w.ownsRow base 26 3 v xs.length (nvC xs)
theorem Tryd.info26 : (Tryd.prog.info? 26).map (fun i => (i.zero, i.size, i.bytes)) = some (some (.agg #[.int .i64 0, .int .i64 0, .slice none 0 0]), 3, 40) := by kernel_rfl
theorem ownN_nil (w : World) (base : Nat) : OwnN w base (.slice none 0 0) [] := ⟨by simp [nvC], .inl ⟨rfl, rfl⟩⟩
/-- A slice of one's own, or empty: its row may be written. -/
def Fresh (w : World) (base : Nat) (a : Option Addr) (n : Nat) : Prop := 0 < n → ∃ g cur, a = some ⟨g, 0, none⟩ ∧ base ≤ g ∧ w.heap[g]? = some (.cells cur 26 (0, 0))
theorem OwnN.sl {P : Nat → Prop} {w : World} {base : Nat} {v : Value} {xs : List NV} {f : F} (h : OwnN w base v xs) (hr : Reads P w xs f) (hP : ∀ g, base ≤ g → P g) : ∃ a cap, v = .slice a xs.length cap ∧ SlQ P w a xs.length cap f ∧ Fresh w base a xs.length := by
  have hl := hr.len
  rcases h.2 with ⟨rfl, hz⟩ | ⟨g, cap, cur, rfl, hb, hg, hnc, hcm, _⟩
  · exact ⟨none, 0, by rw [hz], ⟨hl, ⟨by omega, fun _ => rfl⟩, Nat.zero_le _, fun h0 => by omega⟩, fun h0 => by omega⟩
  · refine ⟨_, cap, rfl, ⟨hl, ⟨hnc, fun h => by cases h⟩, hcm, fun h0 => ⟨g, 0, rfl, ⟨hP g hb, cur, hg⟩, nd_of_cells hr fun j u hj => ?_⟩⟩, fun _ => ⟨g, cur, rfl, hb, hg⟩⟩
    have hj' : j < xs.length * 3 := by rw [← nvC_len]; exact (List.getElem?_eq_some_iff.1 hj).1
    rw [Nat.zero_add, World.ownsRow.cellAt h j hj', hj]
theorem Fresh.below {w w' : World} {base : Nat} {a : Option Addr} {n : Nat} (h : Fresh w base a n) (hk : KeepN w w') : Fresh w' base a n := fun h0 => by
  obtain ⟨g, cur, e, hb, hg⟩ := h h0
  exact ⟨g, cur, e, hb, by rw [hk g ⟨trivial, cur, hg⟩]; exact hg⟩
/-- The slice's cells are these values'. -/
def HoldsC (w : World) (a : Option Addr) (n : Nat) (ys : List NV) : Prop := ys.length = n ∧ (0 < n → ∃ g o, a = some ⟨g, o, none⟩ ∧ g < w.heap.size ∧ ∀ j u, (nvC ys)[j]? = some u → w.cell? ⟨g, o + j, none⟩ = some u)
theorem HoldsC.below {w w' : World} {a : Option Addr} {n : Nat} {ys : List NV} (h : HoldsC w a n ys) (hb : Below w.heap.size w w') : HoldsC w' a n ys := by
  refine ⟨h.1, fun h0 => ?_⟩
  obtain ⟨g, o, e, hg, hc⟩ := h.2 h0
  exact ⟨g, o, e, Nat.lt_of_lt_of_le hg hb.size, fun j u hj => by rw [hb.cell (by exact hg)]; exact hc j u hj⟩
theorem SlQ.holds {P : Nat → Prop} {w : World} {a : Option Addr} {n cap : Nat} {f : F} (h : SlQ P w a n cap f) : ∃ ys, Reads P w ys f ∧ HoldsC w a n ys := by
  obtain ⟨e1, e2, e3, h3⟩ := h
  rcases Nat.eq_zero_or_pos n with h0 | hp
  · subst h0
    have hf : f = .nil := by cases f with
      | nil => rfl
      | cons _ _ _ _ => simp [F.len] at e1
    subst hf
    exact ⟨[], trivial, rfl, fun h => absurd h (Nat.lt_irrefl 0)⟩
  · obtain ⟨g, o, rfl, ht, hc⟩ := h3 hp
    obtain ⟨ys, hr, hcells⟩ := cells_of_nd hc
    exact ⟨ys, hr, by rw [hr.len, ← e1], fun _ => ⟨g, o, rfl, ht.lt, hcells⟩⟩
/-- append(own, nodes...). -/
theorem run_append_nodes (w : World) (base : Nat) (ty : TypeId) (v : Value) (xs : List NV) (hown : OwnN w base v xs) (a : Option Addr) (n cap : Nat) (ys : List NV) (hB : HoldsC w a n ys) (hN : a = none → cap = 0)
    (h47 : xs.length + n ≤ 3000000) (hbase : base ≤ w.heap.size) :
    ∃ v' w', (Builtin.append_ #[24, 24] ty #[v, .slice a n cap]).run Tryd.prog w = .ok v' w' ∧ OwnN w' base v' (xs ++ ys) ∧ w.grownBy w' v.ownBlock := by
  obtain ⟨i0, hi, hz0, hz1, hz2⟩ := info_parts Tryd.info26
  obtain ⟨hl, h3⟩ := hB
  rcases Nat.eq_zero_or_pos n with h0 | hp
  · subst h0
    obtain rfl := List.eq_nil_of_length_eq_zero hl
    cases a with
    | none =>
      obtain rfl := hN rfl
      exact ⟨v, w, run_append_owned_none w base 24 ty 26 i0 3 Tryd.underlying24 hi v xs.length (nvC xs) hown, by simpa using hown, ⟨rfl, rfl, rfl, Nat.le_refl _, fun _ _ _ => rfl⟩⟩
    | some a =>
      obtain ⟨v', w', hr, h2, h3, _⟩ := run_append_own (P := Tryd.prog) w base 24 ty 26 i0 _ 3 40 Tryd.underlying24 hi hz0 hz1 hz2 rfl (by decide) v xs.length (nvC xs) hown a 0 cap [] rfl (fun j u hj => by simp at hj) (fun u hu => by simp at hu) (by unfold maxLen; omega) (by omega) hbase
      exact ⟨v', w', hr, by simpa [OwnN] using h2, h3⟩
  · obtain ⟨g, o, rfl, ht, hcells⟩ := h3 hp
    obtain ⟨v', w', hrun, h2, h3, _⟩ := run_append_own (P := Tryd.prog) w base 24 ty 26 i0 _ 3 40 Tryd.underlying24 hi hz0 hz1 hz2 rfl (by decide) v xs.length (nvC xs) hown ⟨g, o, none⟩ n cap (nvC ys) (by rw [nvC_len, hl]) (fun j u hj => by
      rw [show Addr.add ⟨g, o, none⟩ j = ⟨g, o + j, none⟩ by simp [Addr.add]]
      exact hcells j u hj) (one_nv ys) (by unfold maxLen; omega) (by omega) hbase
    refine ⟨v', w', hrun, ?_, h3⟩
    unfold OwnN
    rw [List.length_append, nvC_app, hl]
    exact h2
theorem wpList_append_nodes (w : World) {ops : Array Oper} {rest : List Oper} {o : Oper} {act : Act} {Q : Exit → Act → World → Prop} (hgd : o.guard = none) (s x : Operand)
    (ho : o.op = .call { callee := .builtin .append, args := #[s, x], argTypes := #[24, 24] })
    (base : Nat) (v : Value) (xs : List NV) (hs : act.eval s = v) (hown : OwnN w base v xs) (a : Option Addr) (n cap : Nat) (ys : List NV) (hx : act.eval x = .slice a n cap) (hB : HoldsC w a n ys) (hN : a = none → cap = 0)
    (h47 : xs.length + n ≤ 3000000) (hbase : base ≤ w.heap.size)
    (h : ∀ v' w', OwnN w' base v' (xs ++ ys) → w.grownBy w' v.ownBlock → wpList Tryd.prog ops Q rest (act.put o.dst v') w') : wpList Tryd.prog ops Q (o :: rest) act w := by
  refine wpList_plain hgd fun K hK => ?_
  obtain ⟨v', w', hr, h2, h5⟩ := run_append_nodes w base o.type v xs hown a n cap ys hB hN h47 hbase
  unfold Oper.wp execOp
  simp only [ho, resolve, invoke, builtin, Sem.run_bind, Sem.run_pure, Result.andThen_ok, List.map_toArray, List.map_cons, List.map_nil, hs, hx, hr]
  exact hK _ _ (h v' w' h2 h5)
set_option maxHeartbeats 2000000 in
set_option maxRecDepth 100000 in
theorem cloneN_any (P : Nat → Prop) (a : Option Addr) (n cap : Nat) (c : F) (w : World) (h : SlQ P w a n cap c) (hP : ∀ g, w.heap.size ≤ g → P g) (hl : n ≤ 1000000) :
    Calls Tryd.prog 31 #[.slice a n cap] w fun e w' => ∃ a' cap', e = .returned (.slice a' n cap') ∧ SlQ P w' a' n cap' c ∧ Fresh w' w.heap.size a' n ∧ Below w.heap.size w w' := by
  have h' := hide h
  have hP' := hide hP
  clear hP
  have hN := h.nn
  have qn : ∀ (w : World) (a : Option Addr) (n c n' c' : Nat), (binOp .eql 24 (.slice a n c) (.slice none n' c')).run Tryd.prog w = .ok (.bool a.isNone) w := fun w a n c n' c' => Lib.run_eql_slice_nil w _ _ a n c n' c' Tryd.underlying24
  obtain ⟨e1, e2, e3, h3⟩ := h
  cases a with
  | none =>
    have h0 : n = 0 := by
      rcases Nat.eq_zero_or_pos n with h | h
      · exact h
      · obtain ⟨g, off, e, _⟩ := h3 h; cases e
    subst h0
    have hc : c = .nil := by cases c with
      | nil => rfl
      | cons _ _ _ _ => simp [F.len] at e1
    subst hc
    replace hN := hide hN
    clear h3 e1
    go_enter Tryd.func31, Tryd.ntmps31
    go_wp2
    go_ret
    exact ⟨none, 0, rfl, sl_nil _ _ _ (Nat.zero_le _) (fun _ => rfl), (fun h => absurd h (Nat.lt_irrefl 0)), Below.refl _ _⟩
  | some a =>
    replace hN := hide hN
    replace e1 := hide e1
    clear h3
    have hbA := below_alloc w (.cells #[] 26 (0, 0))
    have ho : OwnN (w.alloc (.cells #[] 26 (0, 0))) w.heap.size (.slice (some ⟨w.heap.size, 0, none⟩) 0 0) [] := World.ownsRow_made w #[] 0 (Nat.le_refl _) (Nat.zero_le _) (by simp)
    obtain ⟨ys, hry, hys⟩ := (unhide h').holds
    have hys2 := hide (hys.below hbA)
    have hbA' := hide hbA
    have ho' := hide ho
    replace hry := hide hry
    replace hys := hide hys
    clear hbA ho
    go_enter Tryd.func31, Tryd.ntmps31
    go_wp2_with (at_builtin; refine wpList_append_nodes _ rfl _ _ rfl w.heap.size _ [] rfl (unhide ho') _ n cap ys rfl (unhide hys2) (fun h => by cases h) (by simp; omega) (by simp) ?_)
    intro v' w1 hown hgrow
    have hg : Below w.heap.size (w.alloc (.cells #[] 26 (0, 0))) w1 := (Below.refl _ _).grown hgrow (by simp) (by intro k hk; simp [Value.ownBlock] at hk; omega)
    have hgw : Below w.heap.size w w1 := (unhide hbA').trans hg
    obtain ⟨a', cap', rfl, hs', hf'⟩ := hown.sl ((unhide hry).keep (keep_below hgw)) (unhide hP')
    rw [(unhide hys).1] at hs' hf' ⊢
    replace hown := hide hown
    replace hs' := hide hs'
    replace hf' := hide hf'
    go_wp2
    go_ret
    exact ⟨a', cap', rfl, unhide hs', unhide hf', hgw⟩
end Go.Proofs.YthnapcdanccohaaDoor

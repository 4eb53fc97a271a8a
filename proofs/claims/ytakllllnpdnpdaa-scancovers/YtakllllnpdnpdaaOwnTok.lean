/-
  Tokens and comments that a slice of one's own holds; append; what a slice holds.
-/
import Derived.Test.YtakllllnpdnpdaaRet
import Derived.Test.YtakllllnpdnpdaaTokMath
import Derived.Deep.DeepAppendWide
import Derived.Lib.SmallJoins
import Derived.Laws.OwnMore
namespace Go.Proofs.Ytakllllnpdnpdaa
open Go.RowKit
set_option linter.unusedSimpArgs false
set_option linter.unusedVariables false
/-- A comment. -/
structure Cm where
  s : ByteArray
  p : Int
  l : Int
  n : Int
def Cm.cells (c : Cm) : List Value := [.string c.s, .int .i64 c.p, .int .i64 c.l, .int .i64 c.n]
def Tk.cells (t : Tk) : List Value := [.int .i64 t.k, .string t.s, .int .i64 t.p, .int .i64 t.l, .bool t.q]
def toksC (l : List Tk) : List Value := l.flatMap Tk.cells
def comsC (l : List Cm) : List Value := l.flatMap Cm.cells
theorem toksC_snoc (l : List Tk) (t : Tk) : toksC (l ++ [t]) = toksC l ++ t.cells := by simp [toksC]
theorem comsC_snoc (l : List Cm) (t : Cm) : comsC (l ++ [t]) = comsC l ++ t.cells := by simp [comsC]
/-- Tokens that the call's own slice holds. -/
def OwnT (w : World) (base : Nat) (v : Value) (l : List Tk) : Prop := w.ownsRow base 32 5 v l.length (toksC l)
def OwnC (w : World) (base : Nat) (v : Value) (l : List Cm) : Prop := w.ownsRow base 30 4 v l.length (comsC l)
theorem own_other {w w' : World} {base e size n : Nat} {v : Value} {xs : List Value} (h : w.ownsRow base e size v n xs) (hb : ∀ (k : Nat) (cur : Array Value), w.heap[k]? = some (Obj.cells cur e (0, 0)) → w'.heap[k]? = w.heap[k]?) : w'.ownsRow base e size v n xs := by
  refine ⟨h.1, ?_⟩
  rcases h.2 with h | ⟨g, cap, cur, h1, h2, h3, h4⟩
  · exact .inl h
  · exact .inr ⟨g, cap, cur, h1, h2, (hb g cur h3).trans h3, h4⟩
/-- What other kinds of blocks do turns no row. -/
theorem own_grown {w w' : World} {base e size n : Nat} {v u : Value} {xs : List Value} (h : w.ownsRow base e size v n xs) (hg : w.grownBy w' u.ownBlock) (hu : ∀ (k : Nat), u.ownBlock = some k → ∀ cur, w.heap[k]? ≠ some (Obj.cells cur e (0, 0))) : w'.ownsRow base e size v n xs :=
  own_other h fun k cur hk => hg.block k (Array.getElem?_eq_some_iff.1 hk).1 (fun e => hu k e.symm cur hk)
theorem own_alloc {w : World} {base e size n : Nat} {v : Value} {xs : List Value} (h : w.ownsRow base e size v n xs) (o : Obj) : (w.alloc o).ownsRow base e size v n xs :=
  own_other h fun _ _ hk => Below.heap_alloc _ _ _ (Array.getElem?_eq_some_iff.1 hk).1
theorem own_set {w : World} {base e size n : Nat} {v : Value} {xs : List Value} (h : w.ownsRow base e size v n xs) (a : Addr) (x : Value) (ha : ∀ cur, w.heap[a.block]? ≠ some (Obj.cells cur e (0, 0))) : (w.setCell a x).ownsRow base e size v n xs :=
  own_other h fun _ cur hk => Below.heap_setCell _ _ _ _ (fun e => ha cur (e ▸ hk))
/-- The kind of the block that an own row lies in. -/
theorem own_kind {w : World} {base e size n : Nat} {v : Value} {xs : List Value} (h : w.ownsRow base e size v n xs) {k : Nat} (hk : v.ownBlock = some k) : ∃ cur, w.heap[k]? = some (Obj.cells cur e (0, 0)) := by
  rcases h.2 with ⟨rfl, _⟩ | ⟨g, cap, cur, rfl, h2, h3, h4⟩
  · cases hk
  · obtain rfl : g = k := by simpa [Value.ownBlock] using hk
    exact ⟨cur, h3⟩
theorem own_apart {w : World} {base e e' size n : Nat} {v : Value} {xs : List Value} (h : w.ownsRow base e size v n xs) (hne : e ≠ e') : ∀ k, v.ownBlock = some k → ∀ cur, w.heap[k]? ≠ some (Obj.cells cur e' (0, 0)) := fun k hk cur hc => by
  obtain ⟨cur', h'⟩ := own_kind h hk
  rw [h'] at hc
  simp only [Option.some.injEq, Obj.cells.injEq] at hc
  exact hne hc.2.1
theorem own_shape {w : World} {base e size n : Nat} {v : Value} {xs : List Value} (h : w.ownsRow base e size v n xs) : ∃ a c, v = .slice a n c ∧ n ≤ c ∧ c ≤ maxLen := by
  rcases h.2 with ⟨rfl, rfl⟩ | ⟨g, cap, cur, rfl, _, _, h4, h5, _⟩
  · exact ⟨_, _, rfl, Nat.le_refl _, Nat.zero_le _⟩
  · exact ⟨_, _, rfl, h4, h5⟩
/-- A scanner: where it stands, its line, its tokens, its comments. -/
structure Sc where
  p : Nat
  line : Nat
  l : List Tk
  c : List Cm
theorem Try.info32 : (Try.prog.info? 32).map (fun i => (i.zero, i.size, i.bytes)) = some (some (.agg #[.int .i64 0, .string ⟨#[]⟩, .int .i64 0, .int .i64 0, .bool false]), 5, 48) := by kernel_rfl
theorem Try.info30 : (Try.prog.info? 30).map (fun i => (i.zero, i.size, i.bytes)) = some (some (.agg #[.string ⟨#[]⟩, .int .i64 0, .int .i64 0, .int .i64 0]), 4, 40) := by kernel_rfl
theorem one_tok (t : Tk) : ∀ u ∈ t.cells, u.oneCell' = true := by
  intro u hu
  simp only [Tk.cells, List.mem_cons, List.not_mem_nil, or_false] at hu
  rcases hu with rfl | rfl | rfl | rfl | rfl <;> rfl
theorem one_com (t : Cm) : ∀ u ∈ t.cells, u.oneCell' = true := by
  intro u hu
  simp only [Cm.cells, List.mem_cons, List.not_mem_nil, or_false] at hu
  rcases hu with rfl | rfl | rfl | rfl <;> rfl
theorem new_tok (w : World) (t : Tk) (fr : Nat × Nat) : ∀ (j : Nat) (u : Value), t.cells[j]? = some u → (w.alloc (.cells #[.int .i64 t.k, .string t.s, .int .i64 t.p, .int .i64 t.l, .bool t.q] 32 fr)).cell? (Addr.add ⟨w.heap.size, 0, none⟩ j) = some u := by
  intro j u hj
  rw [show Addr.add ⟨w.heap.size, 0, none⟩ j = ⟨w.heap.size, j, none⟩ by simp [Addr.add]; omega, World.cell?_alloc_mark, List.getElem?_toArray]
  exact hj
theorem new_com (w : World) (t : Cm) (fr : Nat × Nat) : ∀ (j : Nat) (u : Value), t.cells[j]? = some u → (w.alloc (.cells #[.string t.s, .int .i64 t.p, .int .i64 t.l, .int .i64 t.n] 30 fr)).cell? (Addr.add ⟨w.heap.size, 0, none⟩ j) = some u := by
  intro j u hj
  rw [show Addr.add ⟨w.heap.size, 0, none⟩ j = ⟨w.heap.size, j, none⟩ by simp [Addr.add]; omega, World.cell?_alloc_mark, List.getElem?_toArray]
  exact hj
theorem wp_append_tok {w : World} {o : Oper} {a : Act} {K : Act → World → Prop} {Q : Exit → Act → World → Prop} (s x : Operand)
    (ho : o.op = .call { callee := .builtin .append, args := #[s, x], argTypes := #[24, 24] })
    {base : Nat} {v : Value} {l : List Tk} (t : Tk) (hs : a.eval s = v) (hown : OwnT w base v l) (ad : Addr) (hx : a.eval x = .slice (some ad) 1 1)
    (hnews : ∀ (j : Nat) (u : Value), t.cells[j]? = some u → w.cell? (ad.add j) = some u) (hl : l.length ≤ 1000000) (hbase : base ≤ w.heap.size)
    (h : ∀ v' w', OwnT w' base v' (l ++ [t]) → w.grownBy w' v.ownBlock → K (a.put o.dst v') w') : o.wp Try.prog a w K Q := by
  obtain ⟨i0, hi, hz0, hz1, hz2⟩ := info_parts Try.info32
  refine wp_append_own_wide w s x 24 ho base 32 i0 _ 5 48 Try.underlying24 hi hz0 hz1 hz2 rfl (by decide) v l.length (toksC l) hs hown ad 1 1 t.cells hx rfl hnews (one_tok t) (by unfold maxLen; omega) (by omega) hbase ?_
  intro v' w' h1 h2 _
  refine h v' w' ?_ h2
  unfold OwnT
  rw [toksC_snoc, List.length_append]
  exact h1
theorem wp_append_com {w : World} {o : Oper} {a : Act} {K : Act → World → Prop} {Q : Exit → Act → World → Prop} (s x : Operand)
    (ho : o.op = .call { callee := .builtin .append, args := #[s, x], argTypes := #[25, 25] })
    {base : Nat} {v : Value} {l : List Cm} (t : Cm) (hs : a.eval s = v) (hown : OwnC w base v l) (ad : Addr) (hx : a.eval x = .slice (some ad) 1 1)
    (hnews : ∀ (j : Nat) (u : Value), t.cells[j]? = some u → w.cell? (ad.add j) = some u) (hl : l.length ≤ 1000000) (hbase : base ≤ w.heap.size)
    (h : ∀ v' w', OwnC w' base v' (l ++ [t]) → w.grownBy w' v.ownBlock → K (a.put o.dst v') w') : o.wp Try.prog a w K Q := by
  obtain ⟨i0, hi, hz0, hz1, hz2⟩ := info_parts Try.info30
  refine wp_append_own_wide w s x 25 ho base 30 i0 _ 4 40 Try.underlying25 hi hz0 hz1 hz2 rfl (by decide) v l.length (comsC l) hs hown ad 1 1 t.cells hx rfl hnews (one_com t) (by unfold maxLen; omega) (by omega) hbase ?_
  intro v' w' h1 h2 _
  refine h v' w' ?_ h2
  unfold OwnC
  rw [comsC_snoc, List.length_append]
  exact h1
theorem toksC_len (l : List Tk) : (toksC l).length = l.length * 5 := by
  induction l with
  | nil => rfl
  | cons t l ih => simp only [toksC, List.flatMap_cons, List.length_append, List.length_cons] at *; rw [ih]; simp only [Tk.cells, List.length_cons, List.length_nil]; omega
/-- The last token's cells. -/
theorem last_tok {w : World} {base gl cl : Nat} {l : List Tk} {t : Tk} (h : OwnT w base (.slice (some ⟨gl, 0, none⟩) (l.length + 1) cl) (l ++ [t])) (i : Nat) (hi : i < 5) : w.cell? ⟨gl, l.length * 5 + i, none⟩ = t.cells[i]? := by
  have h' : w.ownsRow base 32 5 (.slice (some ⟨gl, 0, none⟩) (l.length + 1) cl) (l.length + 1) (toksC (l ++ [t])) := by
    unfold OwnT at h
    rw [List.length_append] at h
    exact h
  rw [World.ownsRow.cellAt h' _ (by omega), toksC_snoc, List.getElem?_append_right (by rw [toksC_len]; omega), toksC_len, Nat.add_sub_cancel_left]
theorem own_none (w : World) (base e size : Nat) : w.ownsRow base e size (.slice none 0 0) 0 [] := ⟨by simp, .inl ⟨rfl, rfl⟩⟩
/-- A row that holds these, whoever's. -/
theorem own_nil {w : World} {base : Nat} : OwnT w base (.slice none 0 0) [] ∧ OwnC w base (.slice none 0 0) [] := ⟨own_none _ _ _ _, own_none _ _ _ _⟩
theorem toksC_at : ∀ (L : List Tk) (i j : Nat), j < 5 → (toksC L)[i * 5 + j]? = (L[i]?).bind fun t => t.cells[j]? := by
  intro L
  induction L with
  | nil => intro i j _; simp [toksC]
  | cons t L ih =>
    intro i j hj
    have hl : t.cells.length = 5 := rfl
    show (t.cells ++ toksC L)[i * 5 + j]? = _
    cases i with
    | zero => rw [List.getElem?_append_left (by omega)]; simp
    | succ i =>
      rw [List.getElem?_append_right (by omega), hl, show (i + 1) * 5 + j - 5 = i * 5 + j by omega, ih i j hj]
      simp
theorem comsC_at : ∀ (L : List Cm) (i j : Nat), j < 4 → (comsC L)[i * 4 + j]? = (L[i]?).bind fun t => t.cells[j]? := by
  intro L
  induction L with
  | nil => intro i j _; simp [comsC]
  | cons t L ih =>
    intro i j hj
    have hl : t.cells.length = 4 := rfl
    show (t.cells ++ comsC L)[i * 4 + j]? = _
    cases i with
    | zero => rw [List.getElem?_append_left (by omega)]; simp
    | succ i =>
      rw [List.getElem?_append_right (by omega), hl, show (i + 1) * 4 + j - 4 = i * 4 + j by omega, ih i j hj]
      simp
/-- The cells at a place are a token's. -/
def TkAt (w : World) (g o : Nat) (t : Tk) : Prop :=
  w.cell? ⟨g, o, none⟩ = some (.int .i64 t.k) ∧ w.cell? ⟨g, o + 1, none⟩ = some (.string t.s) ∧ w.cell? ⟨g, o + 2, none⟩ = some (.int .i64 t.p) ∧ w.cell? ⟨g, o + 3, none⟩ = some (.int .i64 t.l) ∧ w.cell? ⟨g, o + 4, none⟩ = some (.bool t.q)
def CmAt (w : World) (g o : Nat) (t : Cm) : Prop :=
  w.cell? ⟨g, o, none⟩ = some (.string t.s) ∧ w.cell? ⟨g, o + 1, none⟩ = some (.int .i64 t.p) ∧ w.cell? ⟨g, o + 2, none⟩ = some (.int .i64 t.l) ∧ w.cell? ⟨g, o + 3, none⟩ = some (.int .i64 t.n)
/-- A slice holds these tokens. -/
def Toks (w : World) (v : Value) (L : List Tk) : Prop :=
  ∃ a c, v = .slice a L.length c ∧ L.length ≤ c ∧ c ≤ maxLen ∧ (0 < L.length → ∃ g, a = some ⟨g, 0, none⟩ ∧ g < w.heap.size ∧ ∀ i t, L[i]? = some t → TkAt w g (i * 5) t)
def Coms (w : World) (v : Value) (L : List Cm) : Prop :=
  ∃ a c, v = .slice a L.length c ∧ L.length ≤ c ∧ c ≤ maxLen ∧ (0 < L.length → ∃ g, a = some ⟨g, 0, none⟩ ∧ g < w.heap.size ∧ ∀ i t, L[i]? = some t → CmAt w g (i * 4) t)
theorem own_toks {w : World} {base : Nat} {v : Value} {L : List Tk} (h : OwnT w base v L) : Toks w v L := by
  obtain ⟨a, c, rfl, h1, h2⟩ := own_shape h
  refine ⟨a, c, rfl, h1, h2, fun h0 => ?_⟩
  rcases h.2 with ⟨_, hz⟩ | ⟨g, cap, cur, e, _, hg, _⟩
  · omega
  · simp only [Value.slice.injEq] at e
    obtain ⟨rfl, _, rfl⟩ := e
    refine ⟨g, rfl, (Array.getElem?_eq_some_iff.1 hg).1, fun i t hi => ?_⟩
    have hlt : i < L.length := (List.getElem?_eq_some_iff.1 hi).1
    have hc : ∀ j, j < 5 → w.cell? ⟨g, i * 5 + j, none⟩ = t.cells[j]? := fun j hj => by
      rw [World.ownsRow.cellAt h _ (by omega), toksC_at L i j hj, hi]; rfl
    exact ⟨hc 0 (by omega), hc 1 (by omega), hc 2 (by omega), hc 3 (by omega), hc 4 (by omega)⟩
theorem own_coms {w : World} {base : Nat} {v : Value} {L : List Cm} (h : OwnC w base v L) : Coms w v L := by
  obtain ⟨a, c, rfl, h1, h2⟩ := own_shape h
  refine ⟨a, c, rfl, h1, h2, fun h0 => ?_⟩
  rcases h.2 with ⟨_, hz⟩ | ⟨g, cap, cur, e, _, hg, _⟩
  · omega
  · simp only [Value.slice.injEq] at e
    obtain ⟨rfl, _, rfl⟩ := e
    refine ⟨g, rfl, (Array.getElem?_eq_some_iff.1 hg).1, fun i t hi => ?_⟩
    have hlt : i < L.length := (List.getElem?_eq_some_iff.1 hi).1
    have hc : ∀ j, j < 4 → w.cell? ⟨g, i * 4 + j, none⟩ = t.cells[j]? := fun j hj => by
      rw [World.ownsRow.cellAt h _ (by omega), comsC_at L i j hj, hi]; rfl
    exact ⟨hc 0 (by omega), hc 1 (by omega), hc 2 (by omega), hc 3 (by omega)⟩
theorem TkAt.below {w w' : World} {g o : Nat} {t : Tk} (h : TkAt w g o t) (hg : g < w.heap.size) (hb : Below w.heap.size w w') : TkAt w' g o t := by
  obtain ⟨h0, h1, h2, h3, h4⟩ := h
  exact ⟨by rw [hb.cell hg]; exact h0, by rw [hb.cell hg]; exact h1, by rw [hb.cell hg]; exact h2, by rw [hb.cell hg]; exact h3, by rw [hb.cell hg]; exact h4⟩
theorem CmAt.below {w w' : World} {g o : Nat} {t : Cm} (h : CmAt w g o t) (hg : g < w.heap.size) (hb : Below w.heap.size w w') : CmAt w' g o t := by
  obtain ⟨h0, h1, h2, h3⟩ := h
  exact ⟨by rw [hb.cell hg]; exact h0, by rw [hb.cell hg]; exact h1, by rw [hb.cell hg]; exact h2, by rw [hb.cell hg]; exact h3⟩
theorem Toks.below {w w' : World} {v : Value} {L : List Tk} (h : Toks w v L) (hb : Below w.heap.size w w') : Toks w' v L := by
  obtain ⟨a, c, h1, h2, h3, h4⟩ := h
  refine ⟨a, c, h1, h2, h3, fun h0 => ?_⟩
  obtain ⟨g, e, hg, hc⟩ := h4 h0
  exact ⟨g, e, Nat.lt_of_lt_of_le hg hb.size, fun i t hi => (hc i t hi).below hg hb⟩
theorem Coms.below {w w' : World} {v : Value} {L : List Cm} (h : Coms w v L) (hb : Below w.heap.size w w') : Coms w' v L := by
  obtain ⟨a, c, h1, h2, h3, h4⟩ := h
  refine ⟨a, c, h1, h2, h3, fun h0 => ?_⟩
  obtain ⟨g, e, hg, hc⟩ := h4 h0
  exact ⟨g, e, Nat.lt_of_lt_of_le hg hb.size, fun i t hi => (hc i t hi).below hg hb⟩
end Go.Proofs.Ytakllllnpdnpdaa

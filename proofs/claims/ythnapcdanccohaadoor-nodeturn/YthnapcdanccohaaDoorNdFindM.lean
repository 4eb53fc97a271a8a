/-
  The program's Find: what is found is cloned, one behind the other.
-/
import Derived.Test.YthnapcdanccohaaDoorNdWkF
import Derived.Test.YthnapcdanccohaaDoorNdClone
import Derived.Test.YthnapcdanccohaaDoorNdOne
import Derived.Test.YthnapcdanccohaaDoorOrdI
import Derived.Test.YthnapcdanccohaaDoorOpRun
import Derived.Deep.DeepCutAuto
namespace Go.Proofs.YthnapcdanccohaaDoor
open Go.RowKit Go.Lib Go.Sort
set_option linter.unusedSimpArgs false
set_option linter.unusedVariables false
theorem wpAnyD_two {P : Program} {md : Region.Mode} {ops : Array Oper} {Q : Exit → Act → World → Prop} {S : World → Prop} {D : Nat → Bool} {i i' : Nat} {o o' : Oper} {fuel : Nat} {listed : Array Bool} {a : Act} {w : World} (ho : ops[i]? = some o) (ho' : ops[i']? = some o') (hr : Region.ready md ops listed = [i, i'])
    (h : ∀ K' : Act → World → Prop, (∀ a w, (D i = false → S w) → wpAnyD P md ops Q S D fuel (listed.setIfInBounds i true) a w → K' a w) → if Region.wanted o (yielded ops a.tmps) = true then Oper.wp P o a w K' Q else K' (a.put o.dst undef) w)
    (h' : ∀ K' : Act → World → Prop, (∀ a w, (D i' = false → S w) → wpAnyD P md ops Q S D fuel (listed.setIfInBounds i' true) a w → K' a w) → if Region.wanted o' (yielded ops a.tmps) = true then Oper.wp P o' a w K' Q else K' (a.put o'.dst undef) w) :
    wpAnyD P md ops Q S D (fuel + 1) listed a w :=
  wpAnyD_all hr (by simp) fun j hj => by
    rcases (show j = i ∨ j = i' by simpa using hj) with rfl | rfl
    · exact wpOp_step ho (fun K' hK => h K' (fun a w hS hW => hK a w ⟨hS, hW⟩))
    · exact wpOp_step ho' (fun K' hK => h' K' (fun a w hS hW => hK a w ⟨hS, hW⟩))
theorem cf_ndClone (us : Array Value) (W : World) : Sem.run Tryd.prog (callFunc 30 us) W = .ok (.enter 30 us) W := by kernel_rfl
def zeroN : NV := ⟨0, 0, none, 0, 0⟩
theorem run_build_node (W : World) (ev : Operand → Value) (d : Option Nat) (x : Operand) (t : TypeId) (p : String) (af : Array Edge) (gd : Option (Nat × Bool)) (k tt : Int) (a : Option Addr) (n c : Nat) (hx : ev x = .agg #[.int .i64 k, .int .i64 tt, .slice a n c]) :
    (execOp ev { dst := d, op := .buildSlice 24 1 #[(0, x)], type := t, pos := p, after := af, guard := gd }).run Tryd.prog W = .ok (.value (.slice (some ⟨W.heap.size, 0, none⟩) 1 1)) (W.alloc (.cells #[.int .i64 k, .int .i64 tt, .slice a n c] 26 (0, 0))) := by
  go_simp
theorem ofL_len : ∀ L : List Nd, (F.ofL L).len = L.length
  | [] => rfl
  | _ :: l => by simp only [F.ofL, F.len, List.length_cons, ofL_len l]
theorem ofL_app : ∀ L M : List Nd, F.ofL (L ++ M) = (F.ofL L).app (F.ofL M)
  | [], _ => rfl
  | _ :: l, M => by simp only [List.cons_append, F.ofL, F.app, ofL_app l M]
theorem Reads.mono {P P' : Nat → Prop} {w : World} (hp : ∀ g, TagQ P w g → P' g) : ∀ {xs : List NV} {f : F}, Reads P w xs f → Reads P' w xs f
  | [], .nil, _ => trivial
  | x :: xs, .cons k t c r, h => ⟨h.1, h.2.1, h.2.2.1.mono hp, Reads.mono hp h.2.2.2⟩
  | [], .cons _ _ _ _, h => h.elim
  | _ :: _, .nil, h => h.elim
theorem rowN_kept {w w' : World} {base : Nat} {v : Value} {xs : List NV} (h : OwnN w base v xs) (hb : ∀ g, v.ownBlock = some g → w'.heap[g]? = w.heap[g]?) : OwnN w' base v xs := by
  refine ⟨h.1, ?_⟩
  rcases h.2 with h1 | ⟨g, cap, cur, hv, hg, hh, h2⟩
  · exact .inl h1
  · exact .inr ⟨g, cap, cur, hv, hg, by rw [hb g (by rw [hv]; rfl)]; exact hh, h2⟩
theorem set_nvC (xs : List NV) (i : Nat) (y : NV) (hi : i < xs.length) : (((nvC xs).set (i * 3) (.int .i64 y.k)).set (i * 3 + 1) (.int .i64 y.t)).set (i * 3 + 2) (.slice y.a y.n y.c) = nvC (xs.set i y) := by
  induction xs generalizing i with
  | nil => simp at hi
  | cons x xs ih =>
    cases i with
    | zero => rfl
    | succ i =>
      have := ih i (by simpa using hi)
      rw [List.set_cons_succ, nvC_cons, nvC_cons, ← this]
      have hl : x.cells.length = 3 := rfl
      rw [List.set_append_right _ _ (by omega), List.set_append_right _ _ (by omega), List.set_append_right _ _ (by omega), hl]
      rw [show (i + 1) * 3 - 3 = i * 3 by omega, show (i + 1) * 3 + 1 - 3 = i * 3 + 1 by omega, show (i + 1) * 3 + 2 - 3 = i * 3 + 2 by omega]
theorem own_put {w : World} {base g cap m : Nat} {xs : List NV} (h : OwnN w base (.slice (some ⟨g, 0, none⟩) (m + 1) cap) (xs ++ [zeroN])) (hm : xs.length = m) (y : NV) :
    OwnN (((w.setCell ⟨g, m * 3, none⟩ (.int .i64 y.k)).setCell ⟨g, m * 3 + 1, none⟩ (.int .i64 y.t)).setCell ⟨g, m * 3 + 2, none⟩ (.slice y.a y.n y.c)) base (.slice (some ⟨g, 0, none⟩) (m + 1) cap) (xs ++ [y]) := by
  have hl : (xs ++ [zeroN]).length = m + 1 := by simp [hm]
  refine ⟨by rw [nvC_len], ?_⟩
  rcases h.2 with ⟨h0, _⟩ | ⟨g', cap', cur, hv, hb, hg, hnc, hcm, hcs, ht⟩
  · injection h0 with h0; cases h0
  · injection hv with hv1 hv2 hv3
    injection hv1 with hv1
    injection hv1 with hv1
    subst hv1 hv3
    refine .inr ⟨g, cap, ((cur.setIfInBounds (m * 3) (.int .i64 y.k)).setIfInBounds (m * 3 + 1) (.int .i64 y.t)).setIfInBounds (m * 3 + 2) (.slice y.a y.n y.c), by simp [hm], hb, Joins.block_setCell (Joins.block_setCell (Joins.block_setCell hg _) _) _, by simp [hm]; rw [hl] at hnc; exact hnc, hcm, by simpa using hcs, ?_⟩
    rw [Array.toList_setIfInBounds, Array.toList_setIfInBounds, Array.toList_setIfInBounds, List.take_set, List.take_set, List.take_set]
    rw [show (xs ++ [y]).length = (xs ++ [zeroN]).length by simp, ht, set_nvC _ m y (by rw [hl]; omega)]
    congr 1
    rw [List.set_append_right _ _ (by omega), hm, Nat.sub_self]
    rfl
theorem own_cells {w : World} {base g cap m : Nat} {xs : List NV} {y : NV} (h : OwnN w base (.slice (some ⟨g, 0, none⟩) (m + 1) cap) (xs ++ [y])) (hm : xs.length = m) :
    w.cell? ⟨g, m * 3, none⟩ = some (.int .i64 y.k) ∧ w.cell? ⟨g, m * 3 + 1, none⟩ = some (.int .i64 y.t) ∧ w.cell? ⟨g, m * 3 + 2, none⟩ = some (.slice y.a y.n y.c) ∧ ∀ o, w.frozen? ⟨g, o, none⟩ = false := by
  have hl : (xs ++ [y]).length = m + 1 := by simp [hm]
  have hx : (nvC xs).length = m * 3 := by rw [nvC_len, hm]
  unfold OwnN at h
  rw [hl] at h
  refine ⟨?_, ?_, ?_, fun o => World.ownsRow.frozenAt h o⟩
  · rw [World.ownsRow.cellAt h _ (by omega), nvC_app, List.getElem?_append_right (by omega), hx, Nat.sub_self]; rfl
  · rw [World.ownsRow.cellAt h _ (by omega), nvC_app, List.getElem?_append_right (by omega), hx, Nat.add_sub_cancel_left]; rfl
  · rw [World.ownsRow.cellAt h _ (by omega), nvC_app, List.getElem?_append_right (by omega), hx, Nat.add_sub_cancel_left]; rfl
/-- What has been found: the slice's value, the nodes, the rows of theirs. -/
structure FS where
  v : Value
  l : List Nd
  o : Nat → Prop
def FindP (B0 : Nat) (s : FS) (g : Nat) : Prop := (g < B0 ∨ s.o g) ∧ s.v.ownBlock ≠ some g
structure FindI (B0 gt gf B : Nat) (tok : Int) (s : FS) (w : World) : Prop where
  tok : Cell1 w gt 3 (.int .i64 tok)
  box : Cell1 w gf 24 s.v
  le : B ≤ w.heap.size
  own : ∀ g, s.o g → B ≤ g ∧ g < w.heap.size
  row : ∃ xs, OwnN w B s.v xs ∧ Reads (FindP B0 s) w xs (F.ofL s.l)
def FindC (gt gf : Nat) (s : FS) (g : Nat) : Prop := g = gt ∨ g = gf ∨ s.v.ownBlock = some g ∨ s.o g
def FindR (tok : Int) (s : FS) (x : Nd) (_ : Nat) (s' : FS) : Prop := s'.l = if x.t = tok then s.l ++ [x] else s.l
theorem find_rs (tok : Int) : ∀ (xs : List (Nd × Nat)) (s s' : FS), RS (FindR tok) s xs s' → s'.l = s.l ++ (xs.map (·.1)).filter (fun x => decide (x.t = tok))
  | [], s, s', h => by have : s' = s := h; simp [this]
  | x :: xs, s, s', ⟨m, hm, h⟩ => by
    rw [find_rs tok xs m s' h, hm]
    by_cases ht : x.1.t = tok
    · simp [ht]
    · simp [ht]
theorem find_len (tok : Int) {s0 s : FS} {m : Nat} (h : Done (FindR tok) s0 s m) (h0 : s0.l = []) : s.l.length ≤ m := by
  obtain ⟨xs, h1, rfl⟩ := h
  rw [find_rs tok xs s0 s h1, h0, List.nil_append]
  exact Nat.le_trans (List.length_filter_le _ _) (by simp)
theorem find_hI {B0 gt gf B : Nat} {tok : Int} (s : FS) (w w' : World) (h : FindI B0 gt gf B tok s w) (hs : w.heap.size ≤ w'.heap.size) (hx : ∀ g, g < B0 ∨ FindC gt gf s g → w'.heap[g]? = w.heap[g]?) : FindI B0 gt gf B tok s w' := by
  obtain ⟨h1, h2, h3, h4, xs, h5, h6⟩ := h
  exact ⟨h1.same (hx _ (.inr (.inl rfl))), h2.same (hx _ (.inr (.inr (.inl rfl)))), Nat.le_trans h3 hs, fun g hg => ⟨(h4 g hg).1, Nat.lt_of_lt_of_le (h4 g hg).2 hs⟩, xs, rowN_kept h5 (fun g hg => hx g (.inr (.inr (.inr (.inl hg))))),
    h6.keep (fun g hg => hx g (hg.1.1.elim .inl (fun h => .inr (.inr (.inr (.inr h))))))⟩
theorem find_hC {B0 gt gf B : Nat} {tok : Int} (hB0 : B0 ≤ gt ∧ B0 ≤ gf ∧ gt < B ∧ gf < B) (s : FS) (w : World) (g : Nat) (h : FindI B0 gt gf B tok s w) (hg : FindC gt gf s g) : B0 ≤ g ∧ g < w.heap.size := by
  have := h.le
  rcases hg with rfl | rfl | hg | hg
  · omega
  · omega
  · obtain ⟨xs, h5, _⟩ := h.row
    have := World.ownsRow.lt h5 g hg
    omega
  · have := h.own g hg
    omega
/-- Behind a node that was found. -/
theorem find_fin {B0 gt gf B gb g cq n cap' : Nat} {tok k t : Int} {v : Value} {l : List Nd} {O : Nat → Prop} {c : F} {a' : Option Addr} {xs : List NV} {w W2 W3 X : World}
    (hB0 : True ∧ B0 ≤ gf ∧ gt < B ∧ gf < B ∧ gt ≠ gf) (hgb : w.heap.size = gb) (hle : B ≤ gb) (h1 : Cell1 w gt 3 (.int .i64 tok)) (h4 : ∀ x, O x → B ≤ x ∧ x < w.heap.size) (hown : OwnN w B v xs)
    (hrd : Reads (FindP B0 ⟨v, l, O⟩) w xs (F.ofL l)) (hb2 : Below gb w W2) (hsl : SlQ (fun x => x < B0 ∨ gb ≤ x) W2 a' n cap' c) (hg3 : W2.grownBy W3 v.ownBlock) (hat : v.ownBlock = some g ∨ g = W2.heap.size) (hlt : g < W3.heap.size)
    (hos : X.os = W3.os) (hta : X.tape = W3.tape) (hou : X.output = W3.output) (hXs : X.heap.size = W3.heap.size) (hX : ∀ x, x ≠ g → x ≠ gf → X.heap[x]? = W3.heap[x]?)
    (hoX : OwnN X B (.slice (some ⟨g, 0, none⟩) (xs.length + 1) cq) (xs ++ [⟨k, t, a', n, cap'⟩])) (hcX : Cell1 X gf 24 (.slice (some ⟨g, 0, none⟩) (xs.length + 1) cq)) :
    FindI B0 gt gf B tok ⟨.slice (some ⟨g, 0, none⟩) (xs.length + 1) cq, l ++ [⟨k, t, c⟩], fun x => O x ∨ (gb ≤ x ∧ x < W3.heap.size)⟩ X ∧
    Moves (FindC gt gf ⟨v, l, O⟩) (FindC gt gf ⟨.slice (some ⟨g, 0, none⟩) (xs.length + 1) cq, l ++ [⟨k, t, c⟩], fun x => O x ∨ (gb ≤ x ∧ x < W3.heap.size)⟩) w X := by
  have hs2 := hb2.size
  have hs3 := hg3.size
  have vlt : ∀ x, v.ownBlock = some x → B ≤ x ∧ x < gb := fun x hx => by have := World.ownsRow.lt hown x hx; omega
  have hgge : g < gb → v.ownBlock = some g := fun h => by rcases hat with h' | h'; exact h'; omega
  have hgB : B ≤ g := by rcases hat with h | h; exact (vlt g h).1; omega
  have hrd2 : Reads (fun x => FindP B0 ⟨v, l, O⟩ x ∧ x < W2.heap.size) W2 xs (F.ofL l) := (hrd.keep (keep_below (by rw [hgb]; exact hb2))).mono (fun x hx => ⟨hx.1, hx.lt⟩)
  have hsl2 : SlQ (fun x => (x < B0 ∨ gb ≤ x) ∧ x < W2.heap.size) W2 a' n cap' c := hsl.mono (fun x hx => ⟨hx.1, hx.lt⟩)
  have hrd3 := hrd2.keep (w' := W3) (keep_grown hg3 (fun x hx hh => hh.1.1.2 hx))
  have hsl3 := hsl2.keep (w' := W3) (keep_grown hg3 (fun x hx hh => by have := vlt x hx; have := hh.1.1; omega))
  have mk1 : ∀ x, TagQ (fun x => FindP B0 ⟨v, l, O⟩ x ∧ x < W2.heap.size) W3 x → FindP B0 ⟨.slice (some ⟨g, 0, none⟩) (xs.length + 1) cq, l ++ [⟨k, t, c⟩], fun x => O x ∨ (gb ≤ x ∧ x < W3.heap.size)⟩ x := fun x hx => by
    obtain ⟨⟨h5, h6⟩, h7⟩ := hx.1
    refine ⟨h5.elim .inl (fun h => .inr (.inl h)), fun e => ?_⟩
    have e : g = x := by simpa [Value.ownBlock] using e
    subst e
    rcases hat with h | h
    · exact h6 h
    · omega
  have mk2 : ∀ x, TagQ (fun x => (x < B0 ∨ gb ≤ x) ∧ x < W2.heap.size) W3 x → FindP B0 ⟨.slice (some ⟨g, 0, none⟩) (xs.length + 1) cq, l ++ [⟨k, t, c⟩], fun x => O x ∨ (gb ≤ x ∧ x < W3.heap.size)⟩ x := fun x hx => by
    obtain ⟨h5, h7⟩ := hx.1
    refine ⟨h5.elim .inl (fun h => .inr (.inr ⟨h, by omega⟩)), fun e => ?_⟩
    have e : g = x := by simpa [Value.ownBlock] using e
    subst e
    rcases hat with h | h
    · have := vlt g h; omega
    · omega
  have hK : KeepQ (FindP B0 ⟨.slice (some ⟨g, 0, none⟩) (xs.length + 1) cq, l ++ [⟨k, t, c⟩], fun x => O x ∨ (gb ≤ x ∧ x < W3.heap.size)⟩) W3 X := fun x hx => by
    refine hX x (fun e => hx.1.2 (by rw [e]; rfl)) (fun e => ?_)
    subst e
    rcases hx.1.1 with h | h | h
    · omega
    · have := h4 _ h; omega
    · have := h.1; omega
  have hblk : ∀ x, x < gb → v.ownBlock ≠ some x → x ≠ gf → X.heap[x]? = w.heap[x]? := fun x hx hv hf => by
    rw [hX x (fun e => hv (by rw [e]; exact hgge (by omega))) hf, hg3.block x (by omega) (fun e => hv e.symm), hb2.block x hx]
  refine ⟨⟨h1.same (hblk gt (by omega) (fun e => by have := vlt gt e; omega) hB0.2.2.2.2), hcX, by omega, fun x hx => ?_, xs ++ [⟨k, t, a', n, cap'⟩], hoX, ?_⟩, ?_, ?_, ?_, by omega, fun x hx hc => ?_, fun x hx => ?_⟩
  · rcases hx with hx | hx
    · have := h4 x hx; omega
    · omega
  · dsimp only
    rw [ofL_app]
    exact ((hrd3.mono mk1).keep hK).app ⟨rfl, rfl, (hsl3.mono mk2).keep hK, trivial⟩
  · rw [hos, hg3.os, hb2.os]
  · rw [hta, hg3.tape, hb2.tape]
  · rw [hou, hg3.output, hb2.output]
  · exact hblk x (by omega) (fun e => hc (.inr (.inr (.inl e)))) (fun e => hc (.inr (.inl e)))
  · rcases hx with hx | hx | hx | hx
    · exact .inl (.inl hx)
    · exact .inl (.inr (.inl hx))
    · have e : g = x := by simpa [Value.ownBlock] using hx
      subst e
      rcases hat with h | h
      · exact .inl (.inr (.inr (.inl h)))
      · exact .inr (by omega)
    · rcases hx with hx | hx
      · exact .inl (.inr (.inr (.inr hx)))
      · exact .inr (by omega)
end Go.Proofs.YthnapcdanccohaaDoor

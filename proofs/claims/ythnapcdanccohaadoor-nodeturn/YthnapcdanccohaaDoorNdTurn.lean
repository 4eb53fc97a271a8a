/-
  One node of a tree is turned: what the others are, and that the tree is another one. No program.
-/
import Derived.Test.YthnapcdanccohaaDoorNdKinds
namespace Go.Proofs.YthnapcdanccohaaDoor
open Go.RowKit Go.Lib Go.Sort
set_option linter.unusedSimpArgs false
set_option linter.unusedVariables false
/-- Trees of one form. -/
def Shp : F → F → Prop
  | .nil, .nil => True
  | .cons _ _ c r, .cons _ _ c' r' => Shp c c' ∧ Shp r r'
  | _, _ => False
theorem Shp.refl : ∀ f : F, Shp f f
  | .nil => trivial
  | .cons _ _ c r => ⟨Shp.refl c, Shp.refl r⟩
theorem Shp.size : ∀ {f f' : F}, Shp f f' → f.size = f'.size
  | .nil, .nil, _ => rfl
  | .cons _ _ c r, .cons _ _ c' r', h => by simp only [F.size, Shp.size h.1, Shp.size h.2]
  | .nil, .cons _ _ _ _, h => h.elim
  | .cons _ _ _ _, .nil, h => h.elim
theorem Shp.len : ∀ {f f' : F}, Shp f f' → f.len = f'.len
  | .nil, .nil, _ => rfl
  | .cons _ _ c r, .cons _ _ c' r', h => by simp only [F.len, Shp.len h.2]
  | .nil, .cons _ _ _ _, h => h.elim
  | .cons _ _ _ _, .nil, h => h.elim
theorem Shp.drop : ∀ {f f' : F} (i : Nat), Shp f f' → Shp (f.drop i) (f'.drop i)
  | .nil, .nil, i, _ => by cases i <;> trivial
  | .cons _ _ c r, .cons _ _ c' r', 0, h => h
  | .cons _ _ c r, .cons _ _ c' r', i + 1, h => Shp.drop i h.2
  | .nil, .cons _ _ _ _, _, h => h.elim
  | .cons _ _ _ _, .nil, _, h => h.elim
section
variable {P : Nat → Prop}
/-- Where a number is written over by another one the trees have the forms that they had. -/
theorem NdQ.turn {w : World} {p q : Nat} {x y : Int} (hp : w.cell? ⟨p, q, none⟩ = some (.int .i64 x)) : ∀ (f : F) (g o : Nat), NdQ P w f g o → ∃ f', NdQ P (w.setCell ⟨p, q, none⟩ (.int .i64 y)) f' g o ∧ Shp f f'
  | .nil, _, _, _ => ⟨.nil, trivial, trivial⟩
  | .cons k t c r, g, o, hn => by
    obtain ⟨h0, h1, ⟨b, m, cb, h2, e1, e2, e3, h3⟩, h4⟩ := hn
    obtain ⟨r', hr, hsr⟩ := NdQ.turn hp r g (o + 3) h4
    have hk : ∀ (o' : Nat) (z : Int), w.cell? ⟨g, o', none⟩ = some (.int .i64 z) → ∃ z', (w.setCell ⟨p, q, none⟩ (.int .i64 y)).cell? ⟨g, o', none⟩ = some (.int .i64 z') := fun o' z hz => by
      by_cases e : (⟨p, q, none⟩ : Addr) = ⟨g, o', none⟩
      · exact ⟨y, by rw [e]; exact World.cell?_setCell_same _ _ _ hz⟩
      · exact ⟨z, by rw [World.cell?_setCell_other _ _ _ _ e]; exact hz⟩
    obtain ⟨k', hk'⟩ := hk o k h0
    obtain ⟨t', ht'⟩ := hk (o + 1) t h1
    have h2' : (w.setCell ⟨p, q, none⟩ (.int .i64 y)).cell? ⟨g, o + 2, none⟩ = some (.slice b m cb) := by
      rw [World.cell?_setCell_other _ _ _ _ (fun e => by rw [← e, hp] at h2; cases h2)]; exact h2
    by_cases hm : 0 < m
    · obtain ⟨g', o', e', ht, hc⟩ := h3 hm
      obtain ⟨c', hc', hsc⟩ := NdQ.turn hp c g' o' hc
      exact ⟨.cons k' t' c' r', ⟨hk', ht', ⟨b, m, cb, h2', e1.trans hsc.len, e2, e3, fun _ => ⟨g', o', e', tag_set ht, hc'⟩⟩, hr⟩, hsc, hsr⟩
    · exact ⟨.cons k' t' c r', ⟨hk', ht', ⟨b, m, cb, h2', e1, e2, e3, fun h => absurd h hm⟩, hr⟩, Shp.refl c, hsr⟩
theorem SlQ.turn {w : World} {p q : Nat} {x y : Int} {a : Option Addr} {n cap : Nat} {c : F} (hp : w.cell? ⟨p, q, none⟩ = some (.int .i64 x)) (h : SlQ P w a n cap c) : ∃ c', SlQ P (w.setCell ⟨p, q, none⟩ (.int .i64 y)) a n cap c' ∧ Shp c c' := by
  obtain ⟨e1, e2, e3, h3⟩ := h
  by_cases hm : 0 < n
  · obtain ⟨g', o', e', ht, hc⟩ := h3 hm
    obtain ⟨c', hc', hsc⟩ := NdQ.turn hp c g' o' hc
    exact ⟨c', ⟨e1.trans hsc.len, e2, e3, fun _ => ⟨g', o', e', tag_set ht, hc'⟩⟩, hsc⟩
  · exact ⟨c, ⟨e1, e2, e3, fun h => absurd h hm⟩, Shp.refl c⟩
end
/-- Two worlds are the same but for one block. -/
structure Same1 (gk : Nat) (w w' : World) : Prop where
  os : w'.os = w.os
  tape : w'.tape = w.tape
  output : w'.output = w.output
  size : w'.heap.size = w.heap.size
  block : ∀ x, x ≠ gk → w'.heap[x]? = w.heap[x]?
theorem Same1.refl (gk : Nat) (w : World) : Same1 gk w w := ⟨rfl, rfl, rfl, rfl, fun _ _ => rfl⟩
theorem Same1.trans {gk : Nat} {a b c : World} (h : Same1 gk a b) (k : Same1 gk b c) : Same1 gk a c := ⟨k.os.trans h.os, k.tape.trans h.tape, k.output.trans h.output, k.size.trans h.size, fun x hx => (k.block x hx).trans (h.block x hx)⟩
theorem Same1.symm {gk : Nat} {a b : World} (h : Same1 gk a b) : Same1 gk b a := ⟨h.os.symm, h.tape.symm, h.output.symm, h.size.symm, fun x hx => (h.block x hx).symm⟩
theorem same1_set (gk o : Nat) (w : World) (v : Value) : Same1 gk w (w.setCell ⟨gk, o, none⟩ v) := ⟨rfl, rfl, rfl, by simp, fun x hx => Below.heap_setCell _ _ _ x hx⟩
theorem Same1.cell {gk : Nat} {w w' : World} (h : Same1 gk w w') {g : Nat} (hg : g ≠ gk) (o : Nat) : w'.cell? ⟨g, o, none⟩ = w.cell? ⟨g, o, none⟩ := World.cell?_of_block (a := ⟨g, o, none⟩) (h.block g hg)
theorem tag_ne {P : Nat → Prop} {w : World} {gk g : Nat} {v : Value} (hc : Cell1 w gk 3 v) (h : TagQ P w g) : g ≠ gk := fun e => by
  subst e
  obtain ⟨_, cur, h⟩ := h
  rw [hc] at h
  simp only [Option.some.injEq, Obj.cells.injEq] at h
  exact absurd h.2.1 (by decide)
theorem Same1.keep {P : Nat → Prop} {gk : Nat} {w w' : World} {v : Value} (h : Same1 gk w w') (hc : Cell1 w gk 3 v) : KeepQ P w w' := fun g hg => h.block g (tag_ne hc hg)
/-- One cell of a row is written in both. -/
theorem Same1.set {P : Nat → Prop} {gk : Nat} {w w' : World} {p q : Nat} (h : Same1 gk w w') (ht : TagQ P w p) (hne : p ≠ gk) (v : Value) : Same1 gk (w.setCell ⟨p, q, none⟩ v) (w'.setCell ⟨p, q, none⟩ v) := by
  obtain ⟨_, cur, hc⟩ := ht
  refine ⟨h.os, h.tape, h.output, by simp; exact h.size, fun x hx => ?_⟩
  by_cases e : x = p
  · subst e
    have h1 := Joins.block_setCell (i := q) hc v
    have h2 := Joins.block_setCell (i := q) ((h.block x hx).trans hc) v
    exact h2.trans h1.symm
  · rw [Below.heap_setCell _ _ _ x e, Below.heap_setCell _ _ _ x e]
    exact h.block x hx
/-- What stands at this place is not that tree. -/
def NotN (w : World) (g o : Nat) (nd : Nd) : Prop := ∀ (Q : Nat → Prop) (k t : Int) (c r : F), NdQ Q w (.cons k t c r) g o → (⟨k, t, c⟩ : Nd) ≠ nd
theorem NotN.same {gk : Nat} {w w' : World} {g o : Nat} {nd : Nd} {v : Value} (h : NotN w g o nd) (hs : Same1 gk w w') (hg : g ≠ gk) (hc : Cell1 w' gk 3 v) : NotN w' g o nd := fun Q k t c r hn => by
  obtain ⟨h0, h1, ⟨a, n, cap, h2, hsl⟩, _⟩ := NdQ.cons_iff.1 hn
  refine h Q k t c .nil (NdQ.cons_iff.2 ⟨(hs.cell hg o).symm.trans h0, (hs.cell hg _).symm.trans h1, ⟨a, n, cap, (hs.cell hg _).symm.trans h2, ?_⟩, trivial⟩)
  exact hsl.keep (hs.symm.keep hc)
/-- What turn leaves. -/
def TurnP (P : Nat → Prop) (gk g o : Nat) (z : Int) (s : Nat) (nd : Nd) (w w' : World) : Prop :=
  Cell1 w' gk 3 (.int .i64 (z - s)) ∧
  ((¬ (0 ≤ z ∧ z < s) ∧ Same1 gk w w') ∨ ((0 ≤ z ∧ z < s) ∧ ∃ (p q : Nat) (x : Int), w.cell? ⟨p, q, none⟩ = some (.int .i64 x) ∧ TagQ P w p ∧ Same1 gk (w.setCell ⟨p, q, none⟩ (.int .i64 (wrap64 (x + 1)))) w' ∧ NotN w' g o nd))
theorem wrap_ne (x : Int) : wrap64 (x + 1) ≠ x := by unfold wrap64; omega
/-- A slice's cell stays. -/
theorem slice_cell {w : World} {p q g o : Nat} {x y : Int} {a : Option Addr} {n cap : Nat} (hp : w.cell? ⟨p, q, none⟩ = some (.int .i64 x)) (h : w.cell? ⟨g, o, none⟩ = some (.slice a n cap)) : (w.setCell ⟨p, q, none⟩ (.int .i64 y)).cell? ⟨g, o, none⟩ = some (.slice a n cap) := by
  rw [World.cell?_setCell_other _ _ _ _ (fun e => by rw [← e, hp] at h; cases h)]; exact h
/-- A kid that is another one makes the tree another one. -/
theorem NotN.up {w : World} {g o g1 o1 i n cap : Nat} {k t ki ti : Int} {c ci r : F} (h2 : w.cell? ⟨g, o + 2, none⟩ = some (.slice (some ⟨g1, o1, none⟩) n cap)) (hi : i < n) (hd : c.drop i = .cons ki ti ci r) (h : NotN w g1 (o1 + i * 3) ⟨ki, ti, ci⟩) : NotN w g o ⟨k, t, c⟩ := fun Q k' t' c' r' hn e => by
  obtain ⟨rfl, rfl, rfl⟩ : k' = k ∧ t' = t ∧ c' = c := by simpa using e
  obtain ⟨_, _, ⟨a, n', cap', h2', _, _, _, h3⟩, _⟩ := NdQ.cons_iff.1 hn
  rw [h2] at h2'
  simp only [Option.some.injEq, Value.slice.injEq] at h2'
  obtain ⟨rfl, rfl, rfl⟩ := h2'
  obtain ⟨g', o', e', _, hc⟩ := h3 (by omega)
  simp only [Option.some.injEq, Addr.mk.injEq] at e'
  obtain ⟨rfl, rfl, _⟩ := e'
  have := hc.drop i
  rw [hd] at this
  exact h Q ki ti ci r this rfl
theorem drop_size_step {c : F} {i : Nat} {k t : Int} {ci : F} (h : c.drop i = .cons k t ci (c.drop (i + 1))) : (c.drop i).size = ci.size + 1 + (c.drop (i + 1)).size := by rw [h]; rfl
theorem drop_size_le : ∀ (c : F) (i : Nat), (c.drop i).size ≤ c.size
  | c, 0 => by rw [F.drop_zero]; exact Nat.le_refl _
  | .nil, _ + 1 => Nat.le_refl _
  | .cons _ _ c r, i + 1 => by have := drop_size_le r i; simp only [F.drop, F.size]; omega
/-- Behind a kid. -/
theorem TurnP.step {P : Nat → Prop} {gk g o g1 o1 i n cap : Nat} {z k t ki ti : Int} {c ci r c2 : F} {s s' : Nat} {k2 t2 : Int} {w wx w' : World} (hT : TurnP P gk g o z s ⟨k, t, c⟩ w wx) (hg : g ≠ gk)
    (h2 : w.cell? ⟨g, o + 2, none⟩ = some (.slice (some ⟨g1, o1, none⟩) n cap)) (hi : i < n) (hd : c.drop i = .cons ki ti ci r) (hcw : Cell1 w gk 3 (.int .i64 z))
    (hx : TurnP P gk g1 (o1 + i * 3) (z - s) s' ⟨k2, t2, c2⟩ wx w') (he : ¬ (0 ≤ z ∧ z < s) → (⟨k2, t2, c2⟩ : Nd) = ⟨ki, ti, ci⟩) (hs0 : 0 < s) : TurnP P gk g o z (s + s') ⟨k, t, c⟩ w w' := by
  obtain ⟨hc, hT⟩ := hT
  obtain ⟨hc', hx⟩ := hx
  refine ⟨by rw [show z - ((s + s' : Nat) : Int) = z - s - s' by omega]; exact hc', ?_⟩
  rcases hT with ⟨h1, hs⟩ | ⟨h1, p, q, x, e1, e2, e3, e4⟩
  · rcases hx with ⟨h3, hs'⟩ | ⟨h3, p, q, x, e1, e2, e3, e4⟩
    · exact .inl ⟨by omega, hs.trans hs'⟩
    · have e := he h1
      rw [e] at e4
      have hpk : p ≠ gk := tag_ne hc e2
      have ht : TagQ P w p := ⟨e2.1, by obtain ⟨_, cur, hh⟩ := e2; exact ⟨cur, (hs.block p hpk).symm.trans hh⟩⟩
      have hx0 : w.cell? ⟨p, q, none⟩ = some (.int .i64 x) := (hs.cell hpk q).symm.trans e1
      have hsw := (hs.set ht hpk (.int .i64 (wrap64 (x + 1)))).trans e3
      refine .inr ⟨by omega, p, q, x, hx0, ht, hsw, NotN.up (i := i) (g1 := g1) (o1 := o1) (n := n) (cap := cap) ?_ hi hd e4⟩
      rw [hsw.cell hg]
      exact slice_cell hx0 h2
  · rcases hx with ⟨h3, hs'⟩ | ⟨h3, _⟩
    · exact .inr ⟨by omega, p, q, x, e1, e2, e3.trans hs', e4.same hs' hg hc'⟩
    · omega
/-- Where a kid stands, whatever was turned. -/
theorem TurnP.sl {P : Nat → Prop} {gk g o : Nat} {z : Int} {s : Nat} {nd : Nd} {w wx : World} {a : Option Addr} {n cap : Nat} {c : F} (hT : TurnP P gk g o z s nd w wx) (hcw : Cell1 w gk 3 (.int .i64 z)) (h : SlQ P w a n cap c) :
    ∃ c', SlQ P wx a n cap c' ∧ Shp c c' ∧ (¬ (0 ≤ z ∧ z < s) → c' = c) := by
  obtain ⟨hc, hT⟩ := hT
  rcases hT with ⟨h1, hs⟩ | ⟨h1, p, q, x, e1, e2, e3, e4⟩
  · exact ⟨c, h.keep (hs.keep hcw), Shp.refl c, fun _ => rfl⟩
  · obtain ⟨c', h1', h2'⟩ := h.turn (y := wrap64 (x + 1)) e1
    have hne : p ≠ gk := tag_ne hcw e2
    have hcw' : Cell1 (w.setCell ⟨p, q, none⟩ (.int .i64 (wrap64 (x + 1)))) gk 3 (.int .i64 z) := hcw.same (Below.heap_setCell _ _ _ _ (Ne.symm hne))
    exact ⟨c', h1'.keep (e3.keep hcw'), h2', fun h => absurd h1 h⟩
/-- A slice's cell, whatever was turned. -/
theorem TurnP.slice {P : Nat → Prop} {gk g o : Nat} {z : Int} {s : Nat} {nd : Nd} {w wx : World} {a : Option Addr} {n cap g0 o0 : Nat} (hT : TurnP P gk g o z s nd w wx) (hg : g0 ≠ gk) (h : w.cell? ⟨g0, o0, none⟩ = some (.slice a n cap)) : wx.cell? ⟨g0, o0, none⟩ = some (.slice a n cap) := by
  obtain ⟨hc, hT⟩ := hT
  rcases hT with ⟨h1, hs⟩ | ⟨h1, p, q, x, e1, e2, e3, e4⟩
  · rw [hs.cell hg]; exact h
  · rw [e3.cell hg]; exact slice_cell e1 h
end Go.Proofs.YthnapcdanccohaaDoor

/-
  8 texts in one.
-/
import Derived.Test.YtiknnobgoamgcaaGreatDoorRows
import Derived.Test.YtiknnobgoamgcaaGreatDoorB01
import Derived.Lib.SmallJoins
import Derived.Deep.DeepAppendWide
import Derived.WalkKit
import Derived.Deep.AppendLies
import Derived.Laws.OwnMore
import Derived.BigQuiet
import Derived.Deep.QuietTactic
import Derived.Deep.DeepCutAuto
import Derived.Deep.LoopGhost
import Derived.BigRegion
import Derived.Deep.RegionHeld
/-
  Trees in memory: a slice of nodes holds a forest.
-/
namespace Go.Proofs.YtiknnobgoamgcaaGreatDoor
open Go.RowKit Go.Lib
set_option linter.unusedSimpArgs false
set_option linter.unusedVariables false
/-- Block g is a row of nodes. -/
def TagQ (P : Nat → Prop) (w : World) (g : Nat) : Prop := P g ∧ ∃ cur, w.heap[g]? = some (.cells cur 24 (0, 0))
/-- At this place the nodes of a forest stand one behind the other. -/
def NdQ (P : Nat → Prop) (w : World) : F → Nat → Nat → Prop
 | .nil, _, _ => True
 | .cons k t c r, g, o => w.cell? ⟨g, o, none⟩ = some (.int .i64 k) ∧ w.cell? ⟨g, o + 1, none⟩ = some (.int .i64 t) ∧
  (∃ a n cap, w.cell? ⟨g, o + 2, none⟩ = some (.slice a n cap) ∧ n = c.len ∧ (n ≤ cap ∧ (a = none → cap = 0)) ∧ cap ≤ maxLen ∧ (0 < n → ∃ g' o', a = some ⟨g', o', none⟩ ∧ TagQ P w g' ∧ NdQ P w c g' o')) ∧ NdQ P w r g (o + 3)
/-- The slice holds the forest. -/
def SlQ (P : Nat → Prop) (w : World) (a : Option Addr) (n cap : Nat) (c : F) : Prop := n = c.len ∧ (n ≤ cap ∧ (a = none → cap = 0)) ∧ cap ≤ maxLen ∧ (0 < n → ∃ g o, a = some ⟨g, o, none⟩ ∧ TagQ P w g ∧ NdQ P w c g o)
section
variable {P : Nat → Prop}
theorem NdQ.cons_iff {w : World} {k t : Int} {c r : F} {g o : Nat} : NdQ P w (.cons k t c r) g o ↔ w.cell? ⟨g, o, none⟩ = some (.int .i64 k) ∧ w.cell? ⟨g, o + 1, none⟩ = some (.int .i64 t) ∧ (∃ a n cap, w.cell? ⟨g, o + 2, none⟩ = some (.slice a n cap) ∧ SlQ P w a n cap c) ∧ NdQ P w r g (o + 3) := Iff.rfl
theorem TagQ.lt {w : World} {g : Nat} (h : TagQ P w g) : g < w.heap.size := by obtain ⟨_, cur, h⟩ := h; exact (Array.getElem?_eq_some_iff.1 h).1
/-- What rows of nodes there are is as it was. -/
def KeepQ (P : Nat → Prop) (w w' : World) : Prop := ∀ g, TagQ P w g → w'.heap[g]? = w.heap[g]?
theorem KeepQ.tag {w w' : World} (h : KeepQ P w w') {g : Nat} (hg : TagQ P w g) : TagQ P w' g := by
 have := h g hg
 obtain ⟨hp, cur, hh⟩ := hg
 exact ⟨hp, cur, by rw [this]; exact hh⟩
theorem KeepQ.cell {w w' : World} (h : KeepQ P w w') {g : Nat} (hg : TagQ P w g) (o : Nat) : w'.cell? ⟨g, o, none⟩ = w.cell? ⟨g, o, none⟩ := by
 unfold World.cell?
 dsimp only
 rw [h g hg]
theorem NdQ.keep {w w' : World} (h : KeepQ P w w') : ∀ (f : F) (g o : Nat), TagQ P w g → NdQ P w f g o → NdQ P w' f g o
 | .nil, _, _, _, _ => trivial
 | .cons k t c r, g, o, hg, hn => by
  obtain ⟨h0, h1, ⟨a, n, cap, h2, e1, e2, e3, h3⟩, h4⟩ := hn
  exact ⟨by rw [h.cell hg]; exact h0, by rw [h.cell hg]; exact h1, ⟨a, n, cap, by rw [h.cell hg]; exact h2, e1, e2, e3, fun hp => by
   obtain ⟨g', o', e, ht, hc⟩ := h3 hp
   exact ⟨g', o', e, h.tag ht, NdQ.keep h c g' o' ht hc⟩⟩, NdQ.keep h r g (o + 3) hg h4⟩
theorem SlQ.keep {w w' : World} (h : KeepQ P w w') {a : Option Addr} {n cap : Nat} {c : F} (hs : SlQ P w a n cap c) : SlQ P w' a n cap c := by
 obtain ⟨e1, e2, e3, h3⟩ := hs
 refine ⟨e1, e2, e3, fun hp => ?_⟩
 obtain ⟨g, o, e, ht, hc⟩ := h3 hp
 exact ⟨g, o, e, h.tag ht, hc.keep h c g o ht⟩
theorem keep_below {w w' : World} (h : Below w.heap.size w w') : KeepQ P w w' := fun g hg => h.block g hg.lt
theorem keep_drew (w : World) (n : Nat) : KeepQ P w (w.drewN n) := fun _ _ => rfl
theorem SlQ.below {w w' : World} {a : Option Addr} {n cap : Nat} {c : F} (hs : SlQ P w a n cap c) (h : Below w.heap.size w w') : SlQ P w' a n cap c := hs.keep (keep_below h)
/-- A row that holds no nodes is written. -/
theorem keep_grown {w w' : World} {r : Option Nat} (h : w.grownBy w' r) (hr : ∀ g, r = some g → ¬ TagQ P w g) : KeepQ P w w' := fun g hg => h.block g hg.lt (fun e => hr g e.symm hg)
theorem keep_set {w : World} {p : Addr} (v : Value) (h : ¬ TagQ P w p.block) : KeepQ P w (w.setCell p v) := fun g hg => Below.heap_setCell _ _ _ g (fun e => h (e ▸ hg))
theorem SlQ.nn {w : World} {a : Option Addr} {n cap : Nat} {c : F} (h : SlQ P w a n cap c) : a = none → cap = 0 := h.2.1.2
theorem KeepQ.trans {a b c : World} (h : KeepQ P a b) (k : KeepQ P b c) : KeepQ P a c := fun g hg => (k g (h.tag hg)).trans (h g hg)
theorem sl_nil (w : World) (a : Option Addr) (cap : Nat) (h : cap ≤ maxLen) (h' : a = none → cap = 0) : SlQ P w a 0 cap .nil := ⟨rfl, ⟨Nat.zero_le _, h'⟩, h, fun h => absurd h (Nat.lt_irrefl 0)⟩
theorem NdQ.drop {w : World} : ∀ {f : F} {g o : Nat} (i : Nat), NdQ P w f g o → NdQ P w (f.drop i) g (o + i * 3)
 | f, g, o, 0, h => by cases f <;> simpa [F.drop] using h
 | .nil, g, o, i + 1, h => trivial
 | .cons k t c r, g, o, i + 1, h => by
  have := NdQ.drop i h.2.2.2
  rw [show o + (i + 1) * 3 = o + 3 + i * 3 by omega]
  exact this
/-- The i-th node. -/
theorem SlQ.at {w : World} {a : Option Addr} {n cap : Nat} {c : F} (h : SlQ P w a n cap c) {i : Nat} (hi : i < n) : ∃ g o k t a' n' cap' c', a = some ⟨g, o, none⟩ ∧ TagQ P w g ∧ c.drop i = .cons k t c' (c.drop (i + 1)) ∧
  w.cell? ⟨g, o + i * 3, none⟩ = some (.int .i64 k) ∧ w.cell? ⟨g, o + i * 3 + 1, none⟩ = some (.int .i64 t) ∧ w.cell? ⟨g, o + i * 3 + 2, none⟩ = some (.slice a' n' cap') ∧ SlQ P w a' n' cap' c' := by
 obtain ⟨e1, e2, e3, h3⟩ := h
 obtain ⟨g, o, e, ht, hc⟩ := h3 (by omega)
 obtain ⟨k, t, c', hd⟩ := F.drop_cons (f := c) (i := i) (by omega)
 have hn := hc.drop i
 rw [hd] at hn
 obtain ⟨h0, h1, ⟨a', n', cap', h2, h5⟩, h4⟩ := hn
 exact ⟨g, o, k, t, a', n', cap', c', e, ht, hd, h0, h1, h2, h5⟩
/-- The first node, and the rest of the slice. -/
theorem SlQ.tail {w : World} {a : Option Addr} {n cap : Nat} {k t : Int} {c r : F} (h : SlQ P w a n cap (.cons k t c r)) : ∃ g o, a = some ⟨g, o, none⟩ ∧ n = r.len + 1 ∧ ∀ o', (o' = o + 3 ∨ cap = 1) → SlQ P w (some ⟨g, o', none⟩) r.len (cap - 1) r := by
 obtain ⟨e1, e2, e3, h3⟩ := h
 simp only [F.len] at e1
 obtain ⟨g, o, e, ht, hc⟩ := h3 (by omega)
 refine ⟨g, o, e, e1, fun o' ho' => ⟨rfl, ⟨by omega, fun h => by cases h⟩, by omega, fun hp => ⟨g, o', rfl, ht, ?_⟩⟩⟩
 rcases ho' with rfl | h1
 ·
  exact hc.2.2.2
 ·
  omega
/-- One value, one forest. -/
theorem NdQ.unique {w : World} : ∀ (f f' : F) (g o : Nat), f.len = f'.len → NdQ P w f g o → NdQ P w f' g o → f = f'
 | .nil, .nil, _, _, _, _, _ => rfl
 | .nil, .cons _ _ _ _, _, _, h, _, _ => by simp [F.len] at h
 | .cons _ _ _ _, .nil, _, _, h, _, _ => by simp [F.len] at h
 | .cons k t c r, .cons k' t' c' r', g, o, h, hn, hm => by
  obtain ⟨h0, h1, ⟨a, n, cap, h2, e1, e2, e3, h3⟩, h4⟩ := hn
  obtain ⟨m0, m1, ⟨a', n', cap', m2, f1, f2, f3, m3⟩, m4⟩ := hm
  rw [h0] at m0
  rw [h1] at m1
  rw [h2] at m2
  injection m0 with m0
  injection m0 with _ m0
  injection m1 with m1
  injection m1 with _ m1
  injection m2 with m2
  injection m2 with m2a m2b m2c
  subst m0 m1 m2a m2b m2c
  have hr := NdQ.unique r r' g (o + 3) (by simpa [F.len] using h) h4 m4
  have hc : c = c' := by
   rcases Nat.eq_zero_or_pos n with h0 | hp
   ·
    have q1 : c.len = 0 := by omega
    have q2 : c'.len = 0 := by omega
    cases c with
    | nil => cases c' with
     | nil => rfl
     | cons _ _ _ _ => simp [F.len] at q2
    | cons _ _ _ _ => simp [F.len] at q1
   ·
    obtain ⟨g1, o1, e, _, hc1⟩ := h3 hp
    obtain ⟨g2, o2, e', _, hc2⟩ := m3 hp
    rw [e] at e'
    injection e' with e'
    injection e' with e' e''
    subst e' e''
    exact NdQ.unique c c' g1 o1 (by omega) hc1 hc2
  rw [hr, hc]
theorem SlQ.unique {w : World} {a : Option Addr} {n cap : Nat} {c c' : F} (h : SlQ P w a n cap c) (h' : SlQ P w a n cap c') : c = c' := by
 obtain ⟨e1, e2, e3, h3⟩ := h
 obtain ⟨f1, f2, f3, m3⟩ := h'
 rcases Nat.eq_zero_or_pos n with h0 | hp
 ·
  have q1 : c.len = 0 := by omega
  have q2 : c'.len = 0 := by omega
  cases c with
  | nil => cases c' with
   | nil => rfl
   | cons _ _ _ _ => simp [F.len] at q2
  | cons _ _ _ _ => simp [F.len] at q1
 ·
  obtain ⟨g1, o1, e, _, hc1⟩ := h3 hp
  obtain ⟨g2, o2, e', _, hc2⟩ := m3 hp
  rw [e] at e'
  injection e' with e'
  injection e' with e' e''
  subst e' e''
  exact NdQ.unique c c' g1 o1 (by omega) hc1 hc2
theorem tag_set {w : World} {g p q : Nat} {v : Value} (h : TagQ P w g) : TagQ P (w.setCell ⟨p, q, none⟩ v) g := by
 obtain ⟨hP, cur, h⟩ := h
 by_cases e : g = p
 ·
  subst e
  exact ⟨hP, _, Joins.block_setCell (i := q) h v⟩
 ·
  exact ⟨hP, cur, by rw [Below.heap_setCell _ _ _ g e]; exact h⟩
/-- A slice of nodes within them is written over by one that holds the same forest: all hold what they held. -/
theorem NdQ.swap {w : World} {p : Nat} {q : Nat} {a a' : Option Addr} {n n' cap cap' : Nat} {c1 : F} (hp : w.cell? ⟨p, q, none⟩ = some (.slice a n cap)) (h : SlQ P w a n cap c1) (h' : SlQ P w a' n' cap' c1) :
  ∀ (f : F) (g o : Nat), NdQ P w f g o → NdQ P (w.setCell ⟨p, q, none⟩ (.slice a' n' cap')) f g o
 | .nil, _, _, _ => trivial
 | .cons k t c r, g, o, hn => by
  obtain ⟨h0, h1, ⟨b, m, cb, h2, e1, e2, e3, h3⟩, h4⟩ := hn
  have hs : SlQ P w b m cb c := ⟨e1, e2, e3, h3⟩
  refine ⟨?_, ?_, ?_, NdQ.swap hp h h' r g (o + 3) h4⟩
  ·
   rw [World.cell?_setCell_other _ _ _ _ (fun e => by rw [← e, hp] at h0; cases h0)]; exact h0
  ·
   rw [World.cell?_setCell_other _ _ _ _ (fun e => by rw [← e, hp] at h1; cases h1)]; exact h1
  ·
   by_cases e : (⟨g, o + 2, none⟩ : Addr) = ⟨p, q, none⟩
   ·
    rw [e, hp] at h2
    injection h2 with h2
    injection h2 with i1 i2 i3
    subst i1 i2 i3
    obtain rfl := hs.unique h
    obtain ⟨f1, f2, f3, m3⟩ := h'
    refine ⟨a', n', cap', ?_, f1, f2, f3, fun hp' => ?_⟩
    ·
     rw [e]
     exact World.cell?_setCell_same _ _ _ (by rw [hp])
    ·
     obtain ⟨g', o', e', ht, hc⟩ := m3 hp'
     exact ⟨g', o', e', tag_set ht, NdQ.swap hp h ⟨f1, f2, f3, m3⟩ c g' o' hc⟩
   ·
    refine ⟨b, m, cb, ?_, e1, e2, e3, fun hp' => ?_⟩
    ·
     rw [World.cell?_setCell_other _ _ _ _ (fun h => e h.symm)]; exact h2
    ·
     obtain ⟨g', o', e', ht, hc⟩ := h3 hp'
     exact ⟨g', o', e', tag_set ht, NdQ.swap hp h h' c g' o' hc⟩
theorem SlQ.swap {w : World} {p : Nat} {q : Nat} {a a' b : Option Addr} {n n' cap cap' m cb : Nat} {c1 c : F} (hs : SlQ P w b m cb c) (hp : w.cell? ⟨p, q, none⟩ = some (.slice a n cap)) (h : SlQ P w a n cap c1) (h' : SlQ P w a' n' cap' c1) :
  SlQ P (w.setCell ⟨p, q, none⟩ (.slice a' n' cap')) b m cb c := by
 obtain ⟨e1, e2, e3, h3⟩ := hs
 refine ⟨e1, e2, e3, fun hp' => ?_⟩
 obtain ⟨g', o', e', ht, hc⟩ := h3 hp'
 exact ⟨g', o', e', tag_set ht, NdQ.swap hp h h' c g' o' hc⟩
end
/-- Rows of fewer kinds, or of more. -/
theorem NdQ.mono {P P' : Nat → Prop} {w : World} (hp : ∀ g, TagQ P w g → P' g) : ∀ {f : F} {g o : Nat}, NdQ P w f g o → NdQ P' w f g o
 | .nil, _, _, _ => trivial
 | .cons k t c r, g, o, ⟨h0, h1, ⟨a, n, cap, h2, e1, e2, e3, h3⟩, h4⟩ => ⟨h0, h1, ⟨a, n, cap, h2, e1, e2, e3, fun h => by
  obtain ⟨g', o', e, ht, hc⟩ := h3 h
  exact ⟨g', o', e, ⟨hp g' ht, ht.2⟩, NdQ.mono hp hc⟩⟩, NdQ.mono hp h4⟩
theorem SlQ.mono {P P' : Nat → Prop} {w : World} (hp : ∀ g, TagQ P w g → P' g) {a : Option Addr} {n cap : Nat} {c : F} (h : SlQ P w a n cap c) : SlQ P' w a n cap c := by
 obtain ⟨e1, e2, e3, h3⟩ := h
 refine ⟨e1, e2, e3, fun h => ?_⟩
 obtain ⟨g', o', e, ht, hc⟩ := h3 h
 exact ⟨g', o', e, ⟨hp g' ht, ht.2⟩, NdQ.mono hp hc⟩
/-- Whatever rows. -/
abbrev Tag (w : World) (g : Nat) : Prop := TagQ (fun _ => True) w g
abbrev NdAt (w : World) (f : F) (g o : Nat) : Prop := NdQ (fun _ => True) w f g o
abbrev Sl (w : World) (a : Option Addr) (n cap : Nat) (c : F) : Prop := SlQ (fun _ => True) w a n cap c
abbrev KeepN (w w' : World) : Prop := KeepQ (fun _ => True) w w'
theorem SlQ.any {P : Nat → Prop} {w : World} {a : Option Addr} {n cap : Nat} {c : F} (h : SlQ P w a n cap c) : Sl w a n cap c := h.mono (fun _ _ => trivial)
end Go.Proofs.YtiknnobgoamgcaaGreatDoor
/-
  Integers that fit. No program.
-/
namespace Go.Proofs.YtiknnobgoamgcaaGreatDoor
open Go.RowKit
theorem wrapI (x : Int) (h0 : -9223372036854775808 ≤ x) (h1 : x ≤ 9223372036854775807) : IntKind.i64.wrap x = x := by
 simp [IntKind.wrap, IntKind.signed, IntKind.bits]
 split <;> omega
end Go.Proofs.YtiknnobgoamgcaaGreatDoor
/-
  Nodes in memory: boxes, rows of one's own, append, blocks of one cell; what a call may have written. No function of the program.
-/
namespace Go.Proofs.YtiknnobgoamgcaaGreatDoor
open Go.RowKit Go.Lib Go.Sort
set_option linter.unusedSimpArgs false
set_option linter.unusedVariables false
/-- A node's value. -/
def nv (k t : Int) (a : Option Addr) (n cap : Nat) : Value := .agg #[.int .i64 k, .int .i64 t, .slice a n cap]
def nbox (k t : Int) (a : Option Addr) (n cap : Nat) : Obj := .cells #[.int .i64 k, .int .i64 t, .slice a n cap] 24 (0, 0)
theorem box0 (W : World) (k t : Int) (a : Option Addr) (n cap : Nat) : (W.alloc (.cells #[.int .i64 k, .int .i64 t, .slice a n cap] 24 (0, 0))).cell? ⟨W.heap.size, 0, none⟩ = some (.int .i64 k) := cell_alloc_at W _ 24 0 (by simp)
theorem box1 (W : World) (k t : Int) (a : Option Addr) (n cap : Nat) : (W.alloc (.cells #[.int .i64 k, .int .i64 t, .slice a n cap] 24 (0, 0))).cell? ⟨W.heap.size, 1, none⟩ = some (.int .i64 t) := cell_alloc_at W _ 24 1 (by simp)
theorem box2 (W : World) (k t : Int) (a : Option Addr) (n cap : Nat) : (W.alloc (.cells #[.int .i64 k, .int .i64 t, .slice a n cap] 24 (0, 0))).cell? ⟨W.heap.size, 2, none⟩ = some (.slice a n cap) := cell_alloc_at W _ 24 2 (by simp)
/-- Block g holds a node. -/
def BoxN (w : World) (g : Nat) (k t : Int) (a : Option Addr) (n cap : Nat) : Prop := w.cell? ⟨g, 0, none⟩ = some (.int .i64 k) ∧ w.cell? ⟨g, 1, none⟩ = some (.int .i64 t) ∧ w.cell? ⟨g, 2, none⟩ = some (.slice a n cap)
theorem BoxN.below {w w' : World} {B g : Nat} {k t : Int} {a : Option Addr} {n cap : Nat} (h : BoxN w g k t a n cap) (hb : Below B w w') (hg : g < B) : BoxN w' g k t a n cap :=
 ⟨by rw [hb.cell (by exact hg)]; exact h.1, by rw [hb.cell (by exact hg)]; exact h.2.1, by rw [hb.cell (by exact hg)]; exact h.2.2⟩
theorem boxN_new (W : World) (k t : Int) (a : Option Addr) (n cap : Nat) : BoxN (W.alloc (.cells #[.int .i64 k, .int .i64 t, .slice a n cap] 24 (0, 0))) W.heap.size k t a n cap := ⟨box0 _ _ _ _ _ _, box1 _ _ _ _ _ _, box2 _ _ _ _ _ _⟩
/-- All but the blocks of C is as it was; C' has new ones besides, at most. -/
structure Moves (C C' : Nat → Prop) (w w' : World) : Prop where
 os : w'.os = w.os
 tape : w'.tape = w.tape
 output : w'.output = w.output
 size : w.heap.size ≤ w'.heap.size
 block : ∀ g, g < w.heap.size → ¬ C g → w'.heap[g]? = w.heap[g]?
 grows : ∀ g, C' g → C g ∨ w.heap.size ≤ g
theorem Moves.refl (C : Nat → Prop) (w : World) : Moves C C w w := ⟨rfl, rfl, rfl, Nat.le_refl _, fun _ _ _ => rfl, fun _ h => .inl h⟩
theorem Moves.trans {C C' C'' : Nat → Prop} {w w' w'' : World} (h : Moves C C' w w') (k : Moves C' C'' w' w'') : Moves C C'' w w'' :=
 ⟨k.os.trans h.os, k.tape.trans h.tape, k.output.trans h.output, Nat.le_trans h.size k.size, fun g hg hc => (k.block g (Nat.lt_of_lt_of_le hg h.size) (fun hc' => by
  rcases h.grows g hc' with h1 | h1
  ·
   exact hc h1
  ·
   omega)).trans (h.block g hg hc), fun g hg => by
  rcases k.grows g hg with h1 | h1
  ·
   exact h.grows g h1
  ·
   exact .inr (Nat.le_trans h.size h1)⟩
theorem Moves.below {C C' : Nat → Prop} {w w' : World} {B : Nat} (h : Moves C C' w w') (hC : ∀ g, C g → B ≤ g) (hB : B ≤ w.heap.size) : Below B w w' :=
 ⟨h.os, h.tape, h.output, h.size, fun g hg => h.block g (Nat.lt_of_lt_of_le hg hB) (fun hc => by have := hC g hc; omega)⟩
theorem moves_of {C C' : Nat → Prop} {w w1 w2 : World} (h : Moves C C' w w1) (k : Below w.heap.size w1 w2) : Moves C C' w w2 :=
 ⟨k.os.trans h.os, k.tape.trans h.tape, k.output.trans h.output, Nat.le_trans h.size k.size, fun g hg hc => (k.block g hg).trans (h.block g hg hc), h.grows⟩
def Cell1 (w : World) (g : Nat) (ty : TypeId) (v : Value) : Prop := w.heap[g]? = some (.cells #[v] ty (0, 0))
theorem Cell1.lt {w : World} {g : Nat} {ty : TypeId} {v : Value} (h : Cell1 w g ty v) : g < w.heap.size := (Array.getElem?_eq_some_iff.1 h).1
theorem Cell1.cell {w : World} {g : Nat} {ty : TypeId} {v : Value} (h : Cell1 w g ty v) : w.cell? ⟨g, 0, none⟩ = some v := by rw [cell_of_row w g 0 _ _ _ h]; rfl
theorem Cell1.frozen {w : World} {g : Nat} {ty : TypeId} {v : Value} (h : Cell1 w g ty v) : w.frozen? ⟨g, 0, none⟩ = false := Joins.unfrozen_of_block h 0
theorem Cell1.set {w : World} {g : Nat} {ty : TypeId} {v : Value} (h : Cell1 w g ty v) (u : Value) : Cell1 (w.setCell ⟨g, 0, none⟩ u) g ty u := by
 have := Joins.block_setCell (i := 0) h u
 exact this
theorem Cell1.same {w w' : World} {g : Nat} {ty : TypeId} {v : Value} (h : Cell1 w g ty v) (e : w'.heap[g]? = w.heap[g]?) : Cell1 w' g ty v := by unfold Cell1; rw [e]; exact h
theorem Cell1.alloc {w : World} {g : Nat} {ty : TypeId} {v : Value} (h : Cell1 w g ty v) (o : Obj) : Cell1 (w.alloc o) g ty v := h.same (Below.heap_alloc _ _ _ h.lt)
theorem cell1_new (w : World) (ty : TypeId) (v : Value) : Cell1 (w.alloc (.cells #[v] ty (0, 0))) w.heap.size ty v := heap_alloc_new w _
/-- A store into one's own block. -/
theorem moves_set (w : World) (g o : Nat) (v : Value) (C : Nat → Prop) (h : C g) : Moves C C w (w.setCell ⟨g, o, none⟩ v) :=
 ⟨rfl, rfl, rfl, by simp, fun x hx hc => Below.heap_setCell _ _ _ x (fun e => hc (e ▸ h)), fun _ h => .inl h⟩
theorem moves_alloc (w : World) (o : Obj) (C : Nat → Prop) : Moves C C w (w.alloc o) := ⟨rfl, rfl, rfl, by simp, fun x hx _ => Below.heap_alloc _ _ _ hx, fun _ h => .inl h⟩
/-- A node's value. -/
structure NV where
 k : Int
 t : Int
 a : Option Addr
 n : Nat
 c : Nat
def NV.cells (x : NV) : List Value := [.int .i64 x.k, .int .i64 x.t, .slice x.a x.n x.c]
def nvC (xs : List NV) : List Value := xs.flatMap NV.cells
theorem nvC_cons (x : NV) (xs : List NV) : nvC (x :: xs) = x.cells ++ nvC xs := rfl
theorem nvC_app (xs ys : List NV) : nvC (xs ++ ys) = nvC xs ++ nvC ys := by simp [nvC]
theorem nvC_len (xs : List NV) : (nvC xs).length = xs.length * 3 := by
 induction xs with
 | nil => rfl
 | cons x xs ih => rw [nvC_cons, List.length_append, ih, List.length_cons]; simp only [NV.cells, List.length_cons, List.length_nil]; omega
theorem one_nv (xs : List NV) : ∀ u ∈ nvC xs, u.oneCell' = true := by
 intro u hu
 obtain ⟨x, _, hx⟩ := List.mem_flatMap.1 hu
 simp only [NV.cells, List.mem_cons, List.not_mem_nil, or_false] at hx
 rcases hx with rfl | rfl | rfl <;> rfl
/-- These values are a forest. -/
def Reads (P : Nat → Prop) (w : World) : List NV → F → Prop
 | [], .nil => True
 | x :: xs, .cons k t c r => x.k = k ∧ x.t = t ∧ SlQ P w x.a x.n x.c c ∧ Reads P w xs r
 | _, _ => False
theorem Reads.len {P : Nat → Prop} {w : World} : ∀ {xs : List NV} {f : F}, Reads P w xs f → xs.length = f.len
 | [], .nil, _ => rfl
 | x :: xs, .cons k t c r, h => by simp only [List.length_cons, F.len]; rw [Reads.len h.2.2.2]
 | [], .cons _ _ _ _, h => h.elim
 | _ :: _, .nil, h => h.elim
theorem Reads.keep {P : Nat → Prop} {w w' : World} (hk : KeepQ P w w') : ∀ {xs : List NV} {f : F}, Reads P w xs f → Reads P w' xs f
 | [], .nil, _ => trivial
 | x :: xs, .cons k t c r, h => ⟨h.1, h.2.1, h.2.2.1.keep hk, Reads.keep hk h.2.2.2⟩
 | [], .cons _ _ _ _, h => h.elim
 | _ :: _, .nil, h => h.elim
theorem Reads.app {P : Nat → Prop} {w : World} : ∀ {xs ys : List NV} {f g : F}, Reads P w xs f → Reads P w ys g → Reads P w (xs ++ ys) (f.app g)
 | [], ys, .nil, g, _, h' => h'
 | x :: xs, ys, .cons k t c r, g, h, h' => ⟨h.1, h.2.1, h.2.2.1, Reads.app h.2.2.2 h'⟩
 | [], _, .cons _ _ _ _, _, h, _ => h.elim
 | _ :: _, _, .nil, _, h, _ => h.elim
theorem cells_of_nd {P : Nat → Prop} {w : World} : ∀ {f : F} {g o : Nat}, NdQ P w f g o → ∃ xs, Reads P w xs f ∧ ∀ j u, (nvC xs)[j]? = some u → w.cell? ⟨g, o + j, none⟩ = some u
 | .nil, g, o, _ => ⟨[], trivial, fun j u h => by simp [nvC] at h⟩
 | .cons k t c r, g, o, ⟨h0, h1, ⟨a, n, cap, h2, hs⟩, h4⟩ => by
  obtain ⟨xs, hr, hc⟩ := cells_of_nd h4
  refine ⟨⟨k, t, a, n, cap⟩ :: xs, ⟨rfl, rfl, hs, hr⟩, fun j u hj => ?_⟩
  rw [nvC_cons] at hj
  match j with
  | 0 => simp [NV.cells] at hj; subst hj; exact h0
  | 1 => simp [NV.cells] at hj; subst hj; exact h1
  | 2 => simp [NV.cells] at hj; subst hj; exact h2
  | j + 3 =>
   rw [List.getElem?_append_right (by simp [NV.cells])] at hj
   simp only [NV.cells, List.length_cons, List.length_nil, Nat.zero_add, Nat.reduceAdd, Nat.add_sub_cancel] at hj
   have := hc j u hj
   rw [show o + (j + 3) = o + 3 + j by omega]
   exact this
theorem nd_of_cells {P : Nat → Prop} {w : World} : ∀ {xs : List NV} {f : F} {g o : Nat}, Reads P w xs f → (∀ j u, (nvC xs)[j]? = some u → w.cell? ⟨g, o + j, none⟩ = some u) → NdQ P w f g o
 | [], .nil, _, _, _, _ => trivial
 | x :: xs, .cons k t c r, g, o, ⟨e1, e2, hs, hr⟩, hc => by
  subst e1 e2
  refine ⟨hc 0 _ rfl, hc 1 _ rfl, ⟨x.a, x.n, x.c, hc 2 _ rfl, hs⟩, nd_of_cells hr fun j u hj => ?_⟩
  have := hc (j + 3) u (by
   rw [nvC_cons, List.getElem?_append_right (by simp [NV.cells])]
   simpa [NV.cells] using hj)
  rw [show o + 3 + j = o + (j + 3) by omega]
  exact this
 | [], .cons _ _ _ _, _, _, h, _ => h.elim
 | _ :: _, .nil, _, _, h, _ => h.elim
/-- Nodes of one's own slice. -/
def OwnN (w : World) (base : Nat) (v : Value) (xs : List NV) : Prop := w.ownsRow base 24 3 v xs.length (nvC xs)
theorem Tryz.info24 : (Tryz.prog.info? 24).map (fun i => (i.zero, i.size, i.bytes)) = some (some (.agg #[.int .i64 0, .int .i64 0, .slice none 0 0]), 3, 40) := by kernel_rfl
theorem ownN_nil (w : World) (base : Nat) : OwnN w base (.slice none 0 0) [] := ⟨by simp [nvC], .inl ⟨rfl, rfl⟩⟩
/-- A slice of one's own, or empty: its row may be written. -/
def Fresh (w : World) (base : Nat) (a : Option Addr) (n : Nat) : Prop := 0 < n → ∃ g cur, a = some ⟨g, 0, none⟩ ∧ base ≤ g ∧ w.heap[g]? = some (.cells cur 24 (0, 0))
theorem OwnN.sl {P : Nat → Prop} {w : World} {base : Nat} {v : Value} {xs : List NV} {f : F} (h : OwnN w base v xs) (hr : Reads P w xs f) (hP : ∀ g, base ≤ g → P g) : ∃ a cap, v = .slice a xs.length cap ∧ SlQ P w a xs.length cap f ∧ Fresh w base a xs.length := by
 have hl := hr.len
 rcases h.2 with ⟨rfl, hz⟩ | ⟨g, cap, cur, rfl, hb, hg, hnc, hcm, _⟩
 ·
  exact ⟨none, 0, by rw [hz], ⟨hl, ⟨by omega, fun _ => rfl⟩, Nat.zero_le _, fun h0 => by omega⟩, fun h0 => by omega⟩
 ·
  refine ⟨_, cap, rfl, ⟨hl, ⟨hnc, fun h => by cases h⟩, hcm, fun h0 => ⟨g, 0, rfl, ⟨hP g hb, cur, hg⟩, nd_of_cells hr fun j u hj => ?_⟩⟩, fun _ => ⟨g, cur, rfl, hb, hg⟩⟩
  have hj' : j < xs.length * 3 := by rw [← nvC_len]; exact (List.getElem?_eq_some_iff.1 hj).1
  rw [Nat.zero_add, World.ownsRow.cellAt h j hj', hj]
theorem Fresh.below {w w' : World} {base : Nat} {a : Option Addr} {n : Nat} (h : Fresh w base a n) (hk : KeepN w w') : Fresh w' base a n := fun h0 => by
 obtain ⟨g, cur, e, hb, hg⟩ := h h0
 exact ⟨g, cur, e, hb, by rw [hk g ⟨trivial, cur, hg⟩]; exact hg⟩
/-- The slice's cells are these values'. -/
def HoldsC (w : World) (a : Option Addr) (n : Nat) (ys : List NV) : Prop := ys.length = n ∧ (0 < n → ∃ g o, a = some ⟨g, o, none⟩ ∧ g < w.heap.size ∧ ∀ j u, (nvC ys)[j]? = some u → w.cell? ⟨g, o + j, none⟩ = some u)
theorem HoldsC.below {w w' : World} {a : Option Addr} {n : Nat} {ys : List NV} (h : HoldsC w a n ys) (hb : Below w.heap.size w w') : HoldsC w' a n ys := by
 refine ⟨h.1, fun h0 => ?_⟩
 obtain ⟨g, o, e, hg, hc⟩ := h.2 h0
 exact ⟨g, o, e, Nat.lt_of_lt_of_le hg hb.size, fun j u hj => by rw [hb.cell (by exact hg)]; exact hc j u hj⟩
theorem SlQ.holds {P : Nat → Prop} {w : World} {a : Option Addr} {n cap : Nat} {f : F} (h : SlQ P w a n cap f) : ∃ ys, Reads P w ys f ∧ HoldsC w a n ys := by
 obtain ⟨e1, e2, e3, h3⟩ := h
 rcases Nat.eq_zero_or_pos n with h0 | hp
 ·
  subst h0
  have hf : f = .nil := by cases f with
   | nil => rfl
   | cons _ _ _ _ => simp [F.len] at e1
  subst hf
  exact ⟨[], trivial, rfl, fun h => absurd h (Nat.lt_irrefl 0)⟩
 ·
  obtain ⟨g, o, rfl, ht, hc⟩ := h3 hp
  obtain ⟨ys, hr, hcells⟩ := cells_of_nd hc
  exact ⟨ys, hr, by rw [hr.len, ← e1], fun _ => ⟨g, o, rfl, ht.lt, hcells⟩⟩
/-- append(own, nodes...). -/
theorem run_append_nodes (w : World) (base : Nat) (ty : TypeId) (v : Value) (xs : List NV) (hown : OwnN w base v xs) (a : Option Addr) (n cap : Nat) (ys : List NV) (hB : HoldsC w a n ys) (hN : a = none → cap = 0)
  (h47 : xs.length + n ≤ 3000000) (hbase : base ≤ w.heap.size) :
  ∃ v' w', (Builtin.append_ #[22, 22] ty #[v, .slice a n cap]).run Tryz.prog w = .ok v' w' ∧ OwnN w' base v' (xs ++ ys) ∧ w.grownBy w' v.ownBlock := by
 obtain ⟨i0, hi, hz0, hz1, hz2⟩ := info_parts Tryz.info24
 obtain ⟨hl, h3⟩ := hB
 rcases Nat.eq_zero_or_pos n with h0 | hp
 ·
  subst h0
  obtain rfl := List.eq_nil_of_length_eq_zero hl
  cases a with
  | none =>
   obtain rfl := hN rfl
   exact ⟨v, w, run_append_owned_none w base 22 ty 24 i0 3 Tryz.underlying22 hi v xs.length (nvC xs) hown, by simpa using hown, ⟨rfl, rfl, rfl, Nat.le_refl _, fun _ _ _ => rfl⟩⟩
  | some a =>
   obtain ⟨v', w', hr, h2, h3, _⟩ := run_append_own (P := Tryz.prog) w base 22 ty 24 i0 _ 3 40 Tryz.underlying22 hi hz0 hz1 hz2 rfl (by decide) v xs.length (nvC xs) hown a 0 cap [] rfl (fun j u hj => by simp at hj) (fun u hu => by simp at hu) (by unfold maxLen; omega) (by omega) hbase
   exact ⟨v', w', hr, by simpa [OwnN] using h2, h3⟩
 ·
  obtain ⟨g, o, rfl, ht, hcells⟩ := h3 hp
  obtain ⟨v', w', hrun, h2, h3, _⟩ := run_append_own (P := Tryz.prog) w base 22 ty 24 i0 _ 3 40 Tryz.underlying22 hi hz0 hz1 hz2 rfl (by decide) v xs.length (nvC xs) hown ⟨g, o, none⟩ n cap (nvC ys) (by rw [nvC_len, hl]) (fun j u hj => by
   rw [show Addr.add ⟨g, o, none⟩ j = ⟨g, o + j, none⟩ by simp [Addr.add]]
   exact hcells j u hj) (one_nv ys) (by unfold maxLen; omega) (by omega) hbase
  refine ⟨v', w', hrun, ?_, h3⟩
  unfold OwnN
  rw [List.length_append, nvC_app, hl]
  exact h2
theorem wpList_append_nodes (w : World) {ops : Array Oper} {rest : List Oper} {o : Oper} {act : Act} {Q : Exit → Act → World → Prop} (hgd : o.guard = none) (s x : Operand)
  (ho : o.op = .call { callee := .builtin .append, args := #[s, x], argTypes := #[22, 22] })
  (base : Nat) (v : Value) (xs : List NV) (hs : act.eval s = v) (hown : OwnN w base v xs) (a : Option Addr) (n cap : Nat) (ys : List NV) (hx : act.eval x = .slice a n cap) (hB : HoldsC w a n ys) (hN : a = none → cap = 0)
  (h47 : xs.length + n ≤ 3000000) (hbase : base ≤ w.heap.size)
  (h : ∀ v' w', OwnN w' base v' (xs ++ ys) → w.grownBy w' v.ownBlock → wpList Tryz.prog ops Q rest (act.put o.dst v') w') : wpList Tryz.prog ops Q (o :: rest) act w := by
 refine wpList_plain hgd fun K hK => ?_
 obtain ⟨v', w', hr, h2, h5⟩ := run_append_nodes w base o.type v xs hown a n cap ys hB hN h47 hbase
 unfold Oper.wp execOp
 simp only [ho, resolve, invoke, builtin, Sem.run_bind, Sem.run_pure, Result.andThen_ok, List.map_toArray, List.map_cons, List.map_nil, hs, hx, hr]
 exact hK _ _ (h v' w' h2 h5)
def NBlk (w : World) (g : Nat) (k t : Int) (a : Option Addr) (n cap : Nat) : Prop := w.heap[g]? = some (.cells #[.int .i64 k, .int .i64 t, .slice a n cap] 24 (0, 0))
theorem NBlk.lt {w : World} {g : Nat} {k t : Int} {a : Option Addr} {n cap : Nat} (h : NBlk w g k t a n cap) : g < w.heap.size := (Array.getElem?_eq_some_iff.1 h).1
theorem NBlk.box {w : World} {g : Nat} {k t : Int} {a : Option Addr} {n cap : Nat} (h : NBlk w g k t a n cap) : BoxN w g k t a n cap :=
 ⟨by rw [cell_of_row w g 0 _ _ _ h]; rfl, by rw [cell_of_row w g 1 _ _ _ h]; rfl, by rw [cell_of_row w g 2 _ _ _ h]; rfl⟩
theorem NBlk.frozen {w : World} {g : Nat} {k t : Int} {a : Option Addr} {n cap : Nat} (h : NBlk w g k t a n cap) (o : Nat) : w.frozen? ⟨g, o, none⟩ = false := Joins.unfrozen_of_block h o
theorem NBlk.same {w w' : World} {g : Nat} {k t : Int} {a : Option Addr} {n cap : Nat} (h : NBlk w g k t a n cap) (e : w'.heap[g]? = w.heap[g]?) : NBlk w' g k t a n cap := by unfold NBlk; rw [e]; exact h
theorem NBlk.set {w : World} {g : Nat} {k t : Int} {a a' : Option Addr} {n cap n' cap' : Nat} (h : NBlk w g k t a n cap) : NBlk (w.setCell ⟨g, 2, none⟩ (.slice a' n' cap')) g k t a' n' cap' := by
 have := Joins.block_setCell (i := 2) h (.slice a' n' cap')
 exact this
theorem nblk_new (w : World) (k t : Int) (a : Option Addr) (n cap : Nat) : NBlk (w.alloc (.cells #[.int .i64 k, .int .i64 t, .slice a n cap] 24 (0, 0))) w.heap.size k t a n cap := heap_alloc_new w _
theorem NBlk.set0 {w : World} {g : Nat} {k t : Int} {a : Option Addr} {n cap : Nat} (h : NBlk w g k t a n cap) (k' : Int) : NBlk (w.setCell ⟨g, 0, none⟩ (.int .i64 k')) g k' t a n cap := by
 have := Joins.block_setCell (i := 0) h (.int .i64 k')
 exact this
theorem NBlk.set1 {w : World} {g : Nat} {k t : Int} {a : Option Addr} {n cap : Nat} (h : NBlk w g k t a n cap) (t' : Int) : NBlk (w.setCell ⟨g, 1, none⟩ (.int .i64 t')) g k t' a n cap := by
 have := Joins.block_setCell (i := 1) h (.int .i64 t')
 exact this
theorem NBlk.set3 {w : World} {g : Nat} {k t k' t' : Int} {a a' : Option Addr} {n cap n' cap' : Nat} (h : NBlk w g k t a n cap) : NBlk (((w.setCell ⟨g, 0, none⟩ (.int .i64 k')).setCell ⟨g, 1, none⟩ (.int .i64 t')).setCell ⟨g, 2, none⟩ (.slice a' n' cap')) g k' t' a' n' cap' := by
 have := Joins.block_setCell (i := 2) (Joins.block_setCell (i := 1) (Joins.block_setCell (i := 0) h (.int .i64 k')) (.int .i64 t')) (.slice a' n' cap')
 exact this
theorem NBlk.other3 {w : World} {g x : Nat} {k t k' t' : Int} {a a' : Option Addr} {n cap n' cap' : Nat} (h : NBlk w g k t a n cap) (hx : g ≠ x) : NBlk (((w.setCell ⟨x, 0, none⟩ (.int .i64 k')).setCell ⟨x, 1, none⟩ (.int .i64 t')).setCell ⟨x, 2, none⟩ (.slice a' n' cap')) g k t a n cap :=
 h.same (by rw [Below.heap_setCell _ _ _ g hx, Below.heap_setCell _ _ _ g hx, Below.heap_setCell _ _ _ g hx])
theorem below_set3 {B x : Nat} {a w : World} {k' t' : Int} {a' : Option Addr} {n' cap' : Nat} (h : Below B a w) (hx : B ≤ x) : Below B a (((w.setCell ⟨x, 0, none⟩ (.int .i64 k')).setCell ⟨x, 1, none⟩ (.int .i64 t')).setCell ⟨x, 2, none⟩ (.slice a' n' cap')) :=
 ((h.setCell (p := ⟨x, 0, none⟩) hx _).setCell (p := ⟨x, 1, none⟩) hx _).setCell (p := ⟨x, 2, none⟩) hx _
theorem run_alloc_node (W : World) (ev : Operand → Value) (d : Option Nat) (t : TypeId) (p : String) (af : Array Edge) (gd : Option (Nat × Bool)) :
  (execOp ev { dst := d, op := .alloc 24, type := t, pos := p, after := af, guard := gd }).run Tryz.prog W = .ok (.value (.pointer (some ⟨W.heap.size, 0, none⟩))) (W.alloc (.cells #[.int .i64 0, .int .i64 0, .slice none 0 0] 24 (0, 0))) := by
 go_simp
theorem run_store_node (W : World) (ev : Operand → Value) (d : Option Nat) (x y : Operand) (t : TypeId) (p : String) (af : Array Edge) (gd : Option (Nat × Bool)) (g : Nat) (k0 t0 k1 t1 : Int) (a0 a1 : Option Addr) (n0 c0 n1 c1 : Nat) (hN : NBlk W g k0 t0 a0 n0 c0) (hx : ev x = .pointer (some ⟨g, 0, none⟩)) (hy : ev y = .agg #[.int .i64 k1, .int .i64 t1, .slice a1 n1 c1]) :
  (execOp ev { dst := d, op := .store 24 x y, type := t, pos := p, after := af, guard := gd }).run Tryz.prog W = .ok .skip (((W.setCell ⟨g, 0, none⟩ (.int .i64 k1)).setCell ⟨g, 1, none⟩ (.int .i64 t1)).setCell ⟨g, 2, none⟩ (.slice a1 n1 c1)) := by
 obtain ⟨z0, z1, z2⟩ := hN.box
 have f0 := hN.frozen 0
 have f1 := hN.frozen 1
 have f2 := hN.frozen 2
 go_simp
theorem oper_skip {P : Program} {o : Oper} {a : Act} {w w' : World} {K : Act → World → Prop} {Q : Exit → Act → World → Prop} (h : (execOp a.eval o).run P w = .ok .skip w') (hk : K (a.put o.dst undef) w') : o.wp P a w K Q := by
 unfold Oper.wp
 rw [h]
 simpa only [Oper.upon] using hk
theorem run_build_node (W : World) (ev : Operand → Value) (d : Option Nat) (x : Operand) (t : TypeId) (p : String) (af : Array Edge) (gd : Option (Nat × Bool)) (k tt : Int) (a : Option Addr) (n c : Nat) (hx : ev x = .agg #[.int .i64 k, .int .i64 tt, .slice a n c]) :
  (execOp ev { dst := d, op := .buildSlice 22 1 #[(0, x)], type := t, pos := p, after := af, guard := gd }).run Tryz.prog W = .ok (.value (.slice (some ⟨W.heap.size, 0, none⟩) 1 1)) (W.alloc (.cells #[.int .i64 k, .int .i64 tt, .slice a n c] 24 (0, 0))) := by
 go_simp
theorem ofL_len : ∀ L : List Nd, (F.ofL L).len = L.length
 | [] => rfl
 | _ :: l => by simp only [F.ofL, F.len, List.length_cons, ofL_len l]
theorem ofL_app : ∀ L M : List Nd, F.ofL (L ++ M) = (F.ofL L).app (F.ofL M)
 | [], _ => rfl
 | _ :: l, M => by simp only [List.cons_append, F.ofL, F.app, ofL_app l M]
theorem Reads.mono {P P' : Nat → Prop} {w : World} (hp : ∀ g, TagQ P w g → P' g) : ∀ {xs : List NV} {f : F}, Reads P w xs f → Reads P' w xs f
 | [], .nil, _ => trivial
 | x :: xs, .cons k t c r, h => ⟨h.1, h.2.1, h.2.2.1.mono hp, Reads.mono hp h.2.2.2⟩
 | [], .cons _ _ _ _, h => h.elim
 | _ :: _, .nil, h => h.elim
theorem rowN_kept {w w' : World} {base : Nat} {v : Value} {xs : List NV} (h : OwnN w base v xs) (hb : ∀ g, v.ownBlock = some g → w'.heap[g]? = w.heap[g]?) : OwnN w' base v xs := by
 refine ⟨h.1, ?_⟩
 rcases h.2 with h1 | ⟨g, cap, cur, hv, hg, hh, h2⟩
 ·
  exact .inl h1
 ·
  exact .inr ⟨g, cap, cur, hv, hg, by rw [hb g (by rw [hv]; rfl)]; exact hh, h2⟩
theorem BoxN.same {w w' : World} {g : Nat} {k t : Int} {a : Option Addr} {n cap : Nat} (h : BoxN w g k t a n cap) (e : w'.heap[g]? = w.heap[g]?) : BoxN w' g k t a n cap :=
 ⟨(World.cell?_of_block (a := ⟨g, 0, none⟩) e).trans h.1, (World.cell?_of_block (a := ⟨g, 1, none⟩) e).trans h.2.1, (World.cell?_of_block (a := ⟨g, 2, none⟩) e).trans h.2.2⟩
theorem run_append_nodesL (w : World) (base : Nat) (ty : TypeId) (v : Value) (xs : List NV) (hown : OwnN w base v xs) (a : Option Addr) (n cap : Nat) (ys : List NV) (hB : HoldsC w a n ys) (hN : a = none → cap = 0)
  (h47 : xs.length + n ≤ 3000000) (hbase : base ≤ w.heap.size) :
  ∃ v' w', (Builtin.append_ #[22, 22] ty #[v, .slice a n cap]).run Tryz.prog w = .ok v' w' ∧ OwnN w' base v' (xs ++ ys) ∧ w.grownBy w' v.ownBlock ∧ (v'.ownBlock = v.ownBlock ∨ v'.ownBlock = some w.heap.size) := by
 obtain ⟨i0, hi, hz0, hz1, hz2⟩ := info_parts Tryz.info24
 obtain ⟨hl, h3⟩ := hB
 rcases Nat.eq_zero_or_pos n with h0 | hp
 ·
  subst h0
  obtain rfl := List.eq_nil_of_length_eq_zero hl
  cases a with
  | none =>
   obtain rfl := hN rfl
   exact ⟨v, w, run_append_owned_none w base 22 ty 24 i0 3 Tryz.underlying22 hi v xs.length (nvC xs) hown, by simpa using hown, ⟨rfl, rfl, rfl, Nat.le_refl _, fun _ _ _ => rfl⟩, .inl rfl⟩
  | some a =>
   obtain ⟨v', w', hr, h2, h3, _, h5⟩ := run_append_own_at (P := Tryz.prog) w base 22 ty 24 i0 _ 3 40 Tryz.underlying22 hi hz0 hz1 hz2 rfl (by decide) v xs.length (nvC xs) hown a 0 cap [] rfl (fun j u hj => by simp at hj) (fun u hu => by simp at hu) (by unfold maxLen; omega) (by omega) hbase
   exact ⟨v', w', hr, by simpa [OwnN] using h2, h3, h5⟩
 ·
  obtain ⟨g, o, rfl, ht, hcells⟩ := h3 hp
  obtain ⟨v', w', hrun, h2, h3, _, h5⟩ := run_append_own_at (P := Tryz.prog) w base 22 ty 24 i0 _ 3 40 Tryz.underlying22 hi hz0 hz1 hz2 rfl (by decide) v xs.length (nvC xs) hown ⟨g, o, none⟩ n cap (nvC ys) (by rw [nvC_len, hl]) (fun j u hj => by
   rw [show Addr.add ⟨g, o, none⟩ j = ⟨g, o + j, none⟩ by simp [Addr.add]]
   exact hcells j u hj) (one_nv ys) (by unfold maxLen; omega) (by omega) hbase
  refine ⟨v', w', hrun, ?_, h3, h5⟩
  unfold OwnN
  rw [List.length_append, nvC_app, hl]
  exact h2
end Go.Proofs.YtiknnobgoamgcaaGreatDoor
/-
  A token's own block, read and written.
-/
namespace Go.Proofs.YtiknnobgoamgcaaGreatDoor
open Go.RowKit
/-- Block b is a token's, this one's. -/
def Blk (w : World) (b : Nat) (t : Tk) : Prop := w.heap[b]? = some (t.obj (0, 0))
theorem Blk.lt {w : World} {b : Nat} {t : Tk} (h : Blk w b t) : b < w.heap.size := (Array.getElem?_eq_some_iff.1 h).1
theorem Blk.box {w : World} {b : Nat} {t : Tk} (h : Blk w b t) : Box w b t :=
 ⟨Joins.cell_of_block h 0, Joins.cell_of_block h 1, Joins.cell_of_block h 2, Joins.cell_of_block h 3, Joins.cell_of_block h 4⟩
theorem Blk.frozen {w : World} {b : Nat} {t : Tk} (h : Blk w b t) (i : Nat) : w.frozen? ⟨b, i, none⟩ = false := Joins.unfrozen_of_block h i
theorem Blk.below {w w' : World} {b B : Nat} {t : Tk} (h : Blk w b t) (hb : Below B w w') (hB : b < B) : Blk w' b t := (hb.block b hB).trans h
theorem Blk.alloc (w : World) (t : Tk) : Blk (w.alloc (t.obj (0, 0))) w.heap.size t := by
 show (w.heap.push _)[w.heap.size]? = _
 simp
/-- A token stored into a token's block. -/
def setTk (w : World) (b : Nat) (t : Tk) : World := ((((w.setCell ⟨b, 0, none⟩ (.int .i64 t.k)).setCell ⟨b, 1, none⟩ (.string t.s)).setCell ⟨b, 2, none⟩ (.int .i64 t.p)).setCell ⟨b, 3, none⟩ (.int .i64 t.l)).setCell ⟨b, 4, none⟩ (.bool t.q)
theorem Blk.set {w : World} {b : Nat} {t : Tk} (h : Blk w b t) (u : Tk) : Blk (setTk w b u) b u := by
 have h0 := Joins.block_setCell (i := 0) h (.int .i64 u.k)
 have h1 := Joins.block_setCell (i := 1) h0 (.string u.s)
 have h2 := Joins.block_setCell (i := 2) h1 (.int .i64 u.p)
 have h3 := Joins.block_setCell (i := 3) h2 (.int .i64 u.l)
 have h4 := Joins.block_setCell (i := 4) h3 (.bool u.q)
 exact h4
theorem setTk_size (w : World) (b : Nat) (u : Tk) : (setTk w b u).heap.size = w.heap.size := by simp [setTk, World.setCell]
theorem setTk_other (w : World) (b k : Nat) (u : Tk) (h : k ≠ b) : (setTk w b u).heap[k]? = w.heap[k]? := by
 unfold setTk
 rw [Below.heap_setCell _ _ _ _ h, Below.heap_setCell _ _ _ _ h, Below.heap_setCell _ _ _ _ h, Below.heap_setCell _ _ _ _ h, Below.heap_setCell _ _ _ _ h]
theorem Blk.set_other {w : World} {b k : Nat} {t : Tk} (h : Blk w k t) (u : Tk) (hk : k ≠ b) : Blk (setTk w b u) k t := (setTk_other w b k u hk).trans h
theorem setTk_below {B : Nat} {a w : World} (h : Below B a w) {b : Nat} (hb : B ≤ b) (u : Tk) : Below B a (setTk w b u) := by
 unfold setTk
 exact ((((h.setCell hb _).setCell hb _).setCell hb _).setCell hb _).setCell hb _
/-- Three tokens laid one behind the other, and what a call leaves of them. -/
theorem blk3 (w : World) (p a b : Tk) (W : World) (hw : Below (((w.alloc (p.obj (0, 0))).alloc (a.obj (0, 0))).alloc (b.obj (0, 0))).heap.size (((w.alloc (p.obj (0, 0))).alloc (a.obj (0, 0))).alloc (b.obj (0, 0))) W) :
  Blk W w.heap.size p ∧ Blk W (w.heap.size + 1) a ∧ Blk W (w.heap.size + 1 + 1) b ∧ Below w.heap.size w W := by
 have h1 := Blk.alloc w p
 have h2 := Blk.alloc (w.alloc (p.obj (0, 0))) a
 have h3 := Blk.alloc ((w.alloc (p.obj (0, 0))).alloc (a.obj (0, 0))) b
 have h1 := h1.below (below_alloc _ (a.obj (0, 0))) h1.lt
 have h1 := h1.below (below_alloc _ (b.obj (0, 0))) h1.lt
 have h2 := h2.below (below_alloc _ (b.obj (0, 0))) h2.lt
 have h1 := h1.below hw h1.lt
 have h2 := h2.below hw h2.lt
 have h3 := h3.below hw h3.lt
 have e1 : (w.alloc (p.obj (0, 0))).heap.size = w.heap.size + 1 := by simp
 have e2 : ((w.alloc (p.obj (0, 0))).alloc (a.obj (0, 0))).heap.size = w.heap.size + 1 + 1 := by simp
 rw [e1] at h2
 rw [e2] at h3
 exact ⟨h1, h2, h3, below3 (below3 (below3 (below_alloc w _) (below_alloc _ _)) (below_alloc _ _)) hw⟩
end Go.Proofs.YtiknnobgoamgcaaGreatDoor
/-
  The parser's block, and its words.
-/
namespace Go.Proofs.YtiknnobgoamgcaaGreatDoor
open Go.RowKit Go.Lib Go.Sort
set_option linter.unusedSimpArgs false
set_option linter.unusedVariables false
/-- What a fault panics with. -/
def PC : List PanicEntry := [{ v := .iface 9 (.string ⟨#[112, 97, 114, 115, 101, 58, 32, 97, 32, 116, 111, 107, 101, 110, 32, 105, 115, 32, 97, 116, 32, 102, 97, 117, 108, 116]⟩), recovered := false }]
/-- The parser's block: its words, where it stands, how deep. -/
structure PaW (g : Nat) (tv : Value) (L : List Tk) (i d : Nat) (w : World) : Prop where
 st : w.heap[g]? = some (.cells #[tv, .int .i64 i, .int .i64 d] 73 (0, 0))
 tk : Toks w tv L
 ln : L.length ≤ 1000000
 ne : ∀ x, tv.ownBlock = some x → x ≠ g
/-- Only the parser's own block is written. -/
abbrev MoP (g : Nat) (w w' : World) : Prop := Moves (fun x => x = g) (fun x => x = g) w w'
section
variable {g : Nat} {tv : Value} {L : List Tk} {i d : Nat} {w w' : World}
theorem PaW.lt (h : PaW g tv L i d w) : g < w.heap.size := (Array.getElem?_eq_some_iff.1 h.st).1
theorem PaW.c0 (h : PaW g tv L i d w) : w.cell? ⟨g, 0, none⟩ = some tv := by rw [cell_of_row w g 0 _ _ _ h.st]; rfl
theorem PaW.c1 (h : PaW g tv L i d w) : w.cell? ⟨g, 1, none⟩ = some (.int .i64 i) := by rw [cell_of_row w g 1 _ _ _ h.st]; rfl
theorem PaW.c2 (h : PaW g tv L i d w) : w.cell? ⟨g, 2, none⟩ = some (.int .i64 d) := by rw [cell_of_row w g 2 _ _ _ h.st]; rfl
theorem PaW.fr (h : PaW g tv L i d w) (o : Nat) : w.frozen? ⟨g, o, none⟩ = false := Joins.unfrozen_of_block h.st o
theorem toks_keep {w w' : World} {v : Value} {L : List Tk} (h : Toks w v L) (hs : w.heap.size ≤ w'.heap.size) (hk : ∀ x, v.ownBlock = some x → w'.heap[x]? = w.heap[x]?) : Toks w' v L := by
 obtain ⟨a, c, rfl, h2, h3, h4⟩ := h
 refine ⟨a, c, rfl, h2, h3, fun h0 => ?_⟩
 obtain ⟨g, rfl, hg, hc⟩ := h4 h0
 have e := hk g rfl
 refine ⟨g, rfl, Nat.lt_of_lt_of_le hg hs, fun i t hi => ?_⟩
 obtain ⟨k0, k1, k2, k3, k4⟩ := hc i t hi
 exact ⟨(World.cell?_of_block (a := ⟨g, i * 5, none⟩) e).trans k0, (World.cell?_of_block (a := ⟨g, i * 5 + 1, none⟩) e).trans k1, (World.cell?_of_block (a := ⟨g, i * 5 + 2, none⟩) e).trans k2, (World.cell?_of_block (a := ⟨g, i * 5 + 3, none⟩) e).trans k3, (World.cell?_of_block (a := ⟨g, i * 5 + 4, none⟩) e).trans k4⟩
theorem toks_lt {w : World} {v : Value} {L : List Tk} (h : Toks w v L) (h0 : 0 < L.length) : ∀ x, v.ownBlock = some x → x < w.heap.size := by
 obtain ⟨a, c, rfl, h2, h3, h4⟩ := h
 obtain ⟨g, rfl, hg, _⟩ := h4 h0
 intro x hx
 have : g = x := by simpa [Value.ownBlock] using hx
 omega
/-- Whatever leaves the words and gives the parser's block. -/
theorem PaW.mv {i' d' : Nat} (h : PaW g tv L i d w) (hs : w.heap.size ≤ w'.heap.size) (hk : ∀ x, x < w.heap.size → x ≠ g → w'.heap[x]? = w.heap[x]?) (hst : w'.heap[g]? = some (.cells #[tv, .int .i64 i', .int .i64 d'] 73 (0, 0))) : PaW g tv L i' d' w' := by
 refine ⟨hst, ?_, h.ln, h.ne⟩
 rcases Nat.eq_zero_or_pos L.length with h0 | h0
 ·
  obtain ⟨a, c, rfl, h2, h3, _⟩ := h.tk
  exact ⟨a, c, rfl, h2, h3, fun h1 => by omega⟩
 ·
  exact toks_keep h.tk hs (fun x hx => hk x (toks_lt h.tk h0 x hx) (h.ne x hx))
theorem PaW.below (h : PaW g tv L i d w) (hb : Below w.heap.size w w') : PaW g tv L i d w' := h.mv hb.size (fun x hx _ => hb.block x hx) ((hb.block g h.lt).trans h.st)
theorem PaW.set1 (h : PaW g tv L i d w) (i' : Nat) : PaW g tv L i' d (w.setCell ⟨g, 1, none⟩ (.int .i64 i')) ∧ MoP g w (w.setCell ⟨g, 1, none⟩ (.int .i64 i')) :=
 ⟨h.mv (by simp) (fun x _ hx => Below.heap_setCell _ _ _ x hx) (by have := Joins.block_setCell (i := 1) h.st (.int .i64 i'); exact this), moves_set w g 1 _ _ rfl⟩
theorem PaW.set2 (h : PaW g tv L i d w) (d' : Nat) : PaW g tv L i d' (w.setCell ⟨g, 2, none⟩ (.int .i64 d')) ∧ MoP g w (w.setCell ⟨g, 2, none⟩ (.int .i64 d')) :=
 ⟨h.mv (by simp) (fun x _ hx => Below.heap_setCell _ _ _ x hx) (by have := Joins.block_setCell (i := 2) h.st (.int .i64 d'); exact this), moves_set w g 2 _ _ rfl⟩
theorem mop_below (hb : Below w.heap.size w w') : MoP g w w' := ⟨hb.os, hb.tape, hb.output, hb.size, fun x hx _ => hb.block x hx, fun _ h => .inl h⟩
/-- The words' slice. -/
theorem PaW.sl (h : PaW g tv L i d w) : ∃ a c, tv = .slice a L.length c ∧ L.length ≤ c ∧ c ≤ maxLen ∧ (0 < L.length → ∃ gt, a = some ⟨gt, 0, none⟩ ∧ gt < w.heap.size ∧ ∀ j t, L[j]? = some t → TkAt w gt (j * 5) t) := h.tk
end
theorem tkA_in {L : List Tk} {i : Nat} (h : i < L.length) : L[i]? = some (tkA L i) := by simp [tkA, List.getD, h]
theorem tkA_out {L : List Tk} {i : Nat} (h : L.length ≤ i) : tkA L i = zTk := by simp [tkA, List.getD, h]
theorem knd_lt {L : List Tk} {i : Nat} {k : Int} (h : knd L i k = true) (hk : k ≠ 0) : i < L.length := by
 rcases Nat.lt_or_ge i L.length with h' | h'
 ·
  exact h'
 ·
  exfalso
  rw [knd, tkA_out h'] at h
  have h := of_decide_eq_true h
  exact hk h.symm
theorem opA_lt {L : List Tk} {i : Nat} {x : List UInt8} (h : opA L i x = true) : i < L.length := knd_lt (k := 4) (by unfold opA at h; simp only [Bool.and_eq_true] at h; exact h.1) (by decide)
theorem keyA_lt {L : List Tk} {i : Nat} {x : List UInt8} (h : keyA L i x = true) : i < L.length := knd_lt (k := 5) (by unfold keyA at h; simp only [Bool.and_eq_true] at h; exact h.1) (by decide)
def opT (x : List UInt8) : Tk := ⟨4, ⟨x.toArray⟩, 0, 0, false⟩
def keyT (x : List UInt8) : Tk := ⟨5, ⟨x.toArray⟩, 0, 0, false⟩
theorem eqB_op (L : List Tk) (i : Nat) (x : List UInt8) : eqB (tkA L i) (opT x) = opA L i x := by simp [eqB, opT, opA]; rfl
theorem eqB_key (L : List Tk) (i : Nat) (x : List UInt8) : eqB (tkA L i) (keyT x) = keyA L i x := by simp [eqB, keyT, keyA]; rfl
theorem tkA_at {w : World} {gt : Nat} {L : List Tk} {i : Nat} (h : ∀ j t, L[j]? = some t → TkAt w gt (j * 5) t) (hi : i < L.length) : TkAt w gt (i * 5) (tkA L i) := h i _ (tkA_in hi)
end Go.Proofs.YtiknnobgoamgcaaGreatDoor
/-
  The parser's fail and peek.
-/
namespace Go.Proofs.YtiknnobgoamgcaaGreatDoor
open Go.RowKit Go.Lib Go.Sort
set_option linter.unusedSimpArgs false
set_option linter.unusedVariables false
set_option maxHeartbeats 2000000 in
set_option maxRecDepth 100000 in
theorem paFail_any (g : Nat) (w : World) : Calls Tryz.prog 71 #[.pointer (some ⟨g, 0, none⟩)] w fun e w' => e = .panicked PC ∧ w' = w := by
 go_enter Tryz.func71, Tryz.ntmps71
 go_wp2
 exact ⟨rfl, rfl, rfl⟩
set_option maxHeartbeats 2000000 in
set_option maxRecDepth 100000 in
theorem paPeek_any {g : Nat} {tv : Value} {L : List Tk} {i d : Nat} {w : World} (h : PaW g tv L i d w) : Calls Tryz.prog 87 #[.pointer (some ⟨g, 0, none⟩)] w fun e w' => e = .returned (tkA L i).val ∧ Below w.heap.size w w' := by
 have hb := below_alloc w (.cells #[.int .i64 0, .string ⟨#[]⟩, .int .i64 0, .int .i64 0, .bool false] 50 (0, 0))
 have hA := h.below hb
 have hR : Blk (w.alloc (.cells #[.int .i64 0, .string ⟨#[]⟩, .int .i64 0, .int .i64 0, .bool false] 50 (0, 0))) w.heap.size zTk := Blk.alloc w zTk
 have c0 := hA.c0
 have c1 := hA.c1
 obtain ⟨a, c, rfl, h1, h2, h3⟩ := h.sl
 obtain ⟨m, hm⟩ : ∃ m, L.length = m := ⟨_, rfl⟩
 rw [hm] at h1 h3 c0
 have hln := h.ln
 rw [hm] at hln
 by_cases hi : i < m
 ·
  have hiz : ¬ (m : Int) ≤ i := by omega
  have hiz2 : (i : Int) < m := by omega
  obtain ⟨gt, rfl, hgt, hc⟩ := h3 (by omega)
  obtain ⟨k0, k1, k2, k3, k4⟩ := tkA_at (i := i) hc (by omega)
  replace k0 := (hb.cell (p := ⟨gt, i * 5, none⟩) hgt).trans k0
  replace k1 := (hb.cell (p := ⟨gt, i * 5 + 1, none⟩) hgt).trans k1
  replace k2 := (hb.cell (p := ⟨gt, i * 5 + 2, none⟩) hgt).trans k2
  replace k3 := (hb.cell (p := ⟨gt, i * 5 + 3, none⟩) hgt).trans k3
  replace k4 := (hb.cell (p := ⟨gt, i * 5 + 4, none⟩) hgt).trans k4
  clear hc h3
  replace h := zH h
  replace hA := zH hA
  replace hR := zH hR
  replace hb := zH hb
  generalize tkA L i = t at *
  go_enter Tryz.func87, Tryz.ntmps87
  go_upto_region 1 with fail
  go_quiet (fail)
  go_upto_region 3 with fail
  have hb2 : Below w.heap.size w ((w.alloc (.cells #[.int .i64 0, .string ⟨#[]⟩, .int .i64 0, .int .i64 0, .bool false] 50 (0, 0))).drewN nq) := ⟨(uH hb).os, (uH hb).tape, (uH hb).output, (uH hb).size, (uH hb).block⟩
  have hR2 : Blk ((w.alloc (.cells #[.int .i64 0, .string ⟨#[]⟩, .int .i64 0, .int .i64 0, .bool false] 50 (0, 0))).drewN nq) w.heap.size zTk := uH hR
  replace c0 : ((w.alloc (.cells #[.int .i64 0, .string ⟨#[]⟩, .int .i64 0, .int .i64 0, .bool false] 50 (0, 0))).drewN nq).cell? ⟨g, 0, none⟩ = _ := c0
  replace c1 : ((w.alloc (.cells #[.int .i64 0, .string ⟨#[]⟩, .int .i64 0, .int .i64 0, .bool false] 50 (0, 0))).drewN nq).cell? ⟨g, 1, none⟩ = _ := c1
  replace k0 : ((w.alloc (.cells #[.int .i64 0, .string ⟨#[]⟩, .int .i64 0, .int .i64 0, .bool false] 50 (0, 0))).drewN nq).cell? ⟨gt, i * 5, none⟩ = _ := k0
  replace k1 : ((w.alloc (.cells #[.int .i64 0, .string ⟨#[]⟩, .int .i64 0, .int .i64 0, .bool false] 50 (0, 0))).drewN nq).cell? ⟨gt, i * 5 + 1, none⟩ = _ := k1
  replace k2 : ((w.alloc (.cells #[.int .i64 0, .string ⟨#[]⟩, .int .i64 0, .int .i64 0, .bool false] 50 (0, 0))).drewN nq).cell? ⟨gt, i * 5 + 2, none⟩ = _ := k2
  replace k3 : ((w.alloc (.cells #[.int .i64 0, .string ⟨#[]⟩, .int .i64 0, .int .i64 0, .bool false] 50 (0, 0))).drewN nq).cell? ⟨gt, i * 5 + 3, none⟩ = _ := k3
  replace k4 : ((w.alloc (.cells #[.int .i64 0, .string ⟨#[]⟩, .int .i64 0, .int .i64 0, .bool false] 50 (0, 0))).drewN nq).cell? ⟨gt, i * 5 + 4, none⟩ = _ := k4
  obtain ⟨r0, r1, r2, r3, r4⟩ := hR2.box
  have f0 := hR2.frozen 0
  have f1 := hR2.frozen 1
  have f2 := hR2.frozen 2
  have f3 := hR2.frozen 3
  have f4 := hR2.frozen 4
  clear hA hR h hb
  replace hb2 := zH hb2
  replace hR2 := zH hR2
  generalize (w.alloc (.cells #[.int .i64 0, .string ⟨#[]⟩, .int .i64 0, .int .i64 0, .bool false] 50 (0, 0))).drewN nq = W2 at *
  go_region
  have hF : Blk (setTk W2 w.heap.size t).drew w.heap.size t := (uH hR2).set t
  have hB : Below w.heap.size w (setTk W2 w.heap.size t).drew := (setTk_below (uH hb2) (Nat.le_refl _) t).drew
  clear c0 c1 k0 k1 k2 k3 k4 r0 r1 r2 r3 r4 f0 f1 f2 f3 f4 hb2 hR2
  obtain ⟨r0, r1, r2, r3, r4⟩ := hF.box
  unfold setTk at hF hB r0 r1 r2 r3 r4
  replace hF := zH hF
  replace hB := zH hB
  generalize (((((W2.setCell ⟨w.heap.size, 0, none⟩ (.int .i64 t.k)).setCell ⟨w.heap.size, 1, none⟩ (.string t.s)).setCell ⟨w.heap.size, 2, none⟩ (.int .i64 t.p)).setCell ⟨w.heap.size, 3, none⟩ (.int .i64 t.l)).setCell ⟨w.heap.size, 4, none⟩ (.bool t.q)).drew = W3 at *
  go_wp2
  refine bodyPost_ret (v := t.val) (by simp [results, Tryz.results87, go_sem, r0, r1, r2, r3, r4, Tk.val]) rfl ?_
  exact ⟨rfl, uH hB⟩
 ·
  have hiz : (m : Int) ≤ i := by omega
  rw [tkA_out (by omega)]
  have hf := zH hR
  replace h := zH h
  replace hA := zH hA
  replace hR := zH hR
  replace hb := zH hb
  clear h3
  go_enter Tryz.func87, Tryz.ntmps87
  go_upto_region 1 with fail
  go_quiet (fail)
  have hb2 : Below w.heap.size w ((w.alloc (.cells #[.int .i64 0, .string ⟨#[]⟩, .int .i64 0, .int .i64 0, .bool false] 50 (0, 0))).drewN nq) := ⟨(uH hb).os, (uH hb).tape, (uH hb).output, (uH hb).size, (uH hb).block⟩
  have hR2 : Blk ((w.alloc (.cells #[.int .i64 0, .string ⟨#[]⟩, .int .i64 0, .int .i64 0, .bool false] 50 (0, 0))).drewN nq) w.heap.size zTk := uH hR
  obtain ⟨r0, r1, r2, r3, r4⟩ := hR2.box
  have f0 := hR2.frozen 0
  have f1 := hR2.frozen 1
  have f2 := hR2.frozen 2
  have f3 := hR2.frozen 3
  have f4 := hR2.frozen 4
  have hF : Blk (setTk ((w.alloc (.cells #[.int .i64 0, .string ⟨#[]⟩, .int .i64 0, .int .i64 0, .bool false] 50 (0, 0))).drewN nq) w.heap.size zTk) w.heap.size zTk := hR2.set zTk
  have hB : Below w.heap.size w (setTk ((w.alloc (.cells #[.int .i64 0, .string ⟨#[]⟩, .int .i64 0, .int .i64 0, .bool false] 50 (0, 0))).drewN nq) w.heap.size zTk) := setTk_below hb2 (Nat.le_refl _) zTk
  clear c0 c1 hb hR hA h hf hb2
  replace hF := zH hF
  replace hB := zH hB
  replace hR2 := zH hR2
  generalize (w.alloc (.cells #[.int .i64 0, .string ⟨#[]⟩, .int .i64 0, .int .i64 0, .bool false] 50 (0, 0))).drewN nq = W2 at *
  go_wp2
  replace hF := uH hF
  replace hB := uH hB
  have hG : setTk W2 w.heap.size zTk = ((((W2.setCell ⟨w.heap.size, 0, none⟩ (.int .i64 0)).setCell ⟨w.heap.size, 1, none⟩ (.string ⟨#[]⟩)).setCell ⟨w.heap.size, 2, none⟩ (.int .i64 0)).setCell ⟨w.heap.size, 3, none⟩ (.int .i64 0)).setCell ⟨w.heap.size, 4, none⟩ (.bool false) := rfl
  clear r0 r1 r2 r3 r4 f0 f1 f2 f3 f4
  obtain ⟨r0, r1, r2, r3, r4⟩ := hF.box
  rw [hG] at hF hB r0 r1 r2 r3 r4
  clear hG
  generalize ((((W2.setCell ⟨w.heap.size, 0, none⟩ (.int .i64 0)).setCell ⟨w.heap.size, 1, none⟩ (.string ⟨#[]⟩)).setCell ⟨w.heap.size, 2, none⟩ (.int .i64 0)).setCell ⟨w.heap.size, 3, none⟩ (.int .i64 0)).setCell ⟨w.heap.size, 4, none⟩ (.bool false) = W3 at *
  refine bodyPost_ret (v := zTk.val) (by simp [results, Tryz.results87, go_sem, r0, r1, r2, r3, r4, Tk.val, zTk]) rfl ?_
  exact ⟨rfl, hB⟩
end Go.Proofs.YtiknnobgoamgcaaGreatDoor
/-
  One operation of a region that draws its order: by what its run answers.
-/
namespace Go.Proofs.YtiknnobgoamgcaaGreatDoor
open Go.RowKit
set_option linter.unusedSimpArgs false
theorem oper_of_run {P : Program} {o : Oper} {a : Act} {w w' : World} {v : Value} {K : Act → World → Prop} {Q : Exit → Act → World → Prop} (h : (execOp a.eval o).run P w = .ok (.value v) w') (hk : K (a.put o.dst v) w') : o.wp P a w K Q := by
 unfold Oper.wp
 rw [h]
 simpa only [Oper.upon] using hk
theorem oper_call {P : Program} {o : Oper} {a : Act} {w : World} {f : FuncId} {args : Array Value} {K : Act → World → Prop} {Q : Exit → Act → World → Prop} (h : (execOp a.eval o).run P w = .ok (.enter f args) w)
  (hc : Calls P f args w fun e w'' => ∃ u, e = .returned u ∧ K (a.put o.dst u) w'') : o.wp P a w K Q := by
 unfold Oper.wp
 rw [h]
 simp only [Oper.upon]
 exact hc.mono (fun e w'' ⟨u, he, hk⟩ => by subst he; exact hk)
theorem run_call1 {P : Program} {W : World} {A : Act} {d : Option Nat} {f : FuncId} {x : Operand} {ts : Array TypeId} {t : TypeId} {p : String} {af : Array Edge} {gd : Option (Nat × Bool)} (hf : ∀ us W, Sem.run P (callFunc f us) W = .ok (.enter f us) W) :
  (execOp A.eval { dst := d, op := .call { callee := .value (.func f), args := #[x], argTypes := ts }, type := t, pos := p, after := af, guard := gd }).run P W = .ok (.enter f #[A.eval x]) W := by
 have h := hf #[A.eval x] W
 generalize hv : A.eval x = v at h
 have e : A.eval (.func f) = .func (.func f) #[] #[] := rfl
 unfold execOp
 simp only [resolve, invoke, Sem.run_bind, Sem.run_pure, Result.andThen_ok, List.map_toArray, List.map_cons, List.map_nil, hv, e, Deferred.ofValue, Array.empty_append, Array.append_empty, List.nil_append, List.append_nil, List.append_toArray, h]
theorem run_call2 {P : Program} {W : World} {A : Act} {d : Option Nat} {f : FuncId} {x y : Operand} {ts : Array TypeId} {t : TypeId} {p : String} {af : Array Edge} {gd : Option (Nat × Bool)} (hf : ∀ us W, Sem.run P (callFunc f us) W = .ok (.enter f us) W) :
  (execOp A.eval { dst := d, op := .call { callee := .value (.func f), args := #[x, y], argTypes := ts }, type := t, pos := p, after := af, guard := gd }).run P W = .ok (.enter f #[A.eval x, A.eval y]) W := by
 have h := hf #[A.eval x, A.eval y] W
 generalize hv : A.eval x = v at h
 generalize hu : A.eval y = u at h
 have e : A.eval (.func f) = .func (.func f) #[] #[] := rfl
 unfold execOp
 simp only [resolve, invoke, Sem.run_bind, Sem.run_pure, Result.andThen_ok, List.map_toArray, List.map_cons, List.map_nil, hv, hu, e, Deferred.ofValue, Array.empty_append, Array.append_empty, List.nil_append, List.append_nil, List.append_toArray, h]
end Go.Proofs.YtiknnobgoamgcaaGreatDoor
/-
  The parser's small functions: is it so, take it, want it, enter, leave.
-/
namespace Go.Proofs.YtiknnobgoamgcaaGreatDoor
open Go.RowKit Go.Lib Go.Sort
set_option linter.unusedSimpArgs false
set_option linter.unusedVariables false
theorem run_field_tok0 (a b c d e : Value) (w : World) : Sem.run Tryz.prog (Instr.field 50 (.agg #[a, b, c, d, e]) 0) w = .ok a w := by kernel_rfl
theorem run_field_tok1 (a b c d e : Value) (w : World) : Sem.run Tryz.prog (Instr.field 50 (.agg #[a, b, c, d, e]) 1) w = .ok b w := by kernel_rfl
theorem cf_paPeek (us : Array Value) (W : World) : Sem.run Tryz.prog (callFunc 87 us) W = .ok (.enter 87 us) W := by kernel_rfl
theorem cf_tEq (us : Array Value) (W : World) : Sem.run Tryz.prog (callFunc 102 us) W = .ok (.enter 102 us) W := by kernel_rfl
set_option maxHeartbeats 2000000 in
set_option maxRecDepth 100000 in
theorem paOp_any (s : ByteArray) (w : World) : Calls Tryz.prog 104 #[.string s] w fun e w' => e = .returned (Tk.val ⟨4, s, 0, 0, false⟩) ∧ Below w.heap.size w w' := by
 have hb := below_alloc w (.cells #[.int .i64 4, .string s, .int .i64 0, .int .i64 0, .bool false] 50 (0, 0))
 go_enter Tryz.func104, Tryz.ntmps104
 go_wp2
 exact bodyPost_ret (v := Tk.val ⟨4, s, 0, 0, false⟩) (by simp [results, Tryz.results104, go_sem, Tk.val]) rfl ⟨rfl, hb⟩
set_option maxHeartbeats 2000000 in
set_option maxRecDepth 100000 in
theorem paKey_any (s : ByteArray) (w : World) : Calls Tryz.prog 64 #[.string s] w fun e w' => e = .returned (Tk.val ⟨5, s, 0, 0, false⟩) ∧ Below w.heap.size w w' := by
 have hb := below_alloc w (.cells #[.int .i64 5, .string s, .int .i64 0, .int .i64 0, .bool false] 50 (0, 0))
 go_enter Tryz.func64, Tryz.ntmps64
 go_wp2
 exact bodyPost_ret (v := Tk.val ⟨5, s, 0, 0, false⟩) (by simp [results, Tryz.results64, go_sem, Tk.val]) rfl ⟨rfl, hb⟩
set_option maxHeartbeats 2000000 in
set_option maxRecDepth 100000 in
theorem paIs_any {g : Nat} {tv : Value} {L : List Tk} {i d : Nat} {w : World} (h : PaW g tv L i d w) (t : Tk) : Calls Tryz.prog 83 #[.pointer (some ⟨g, 0, none⟩), t.val] w fun e w' => e = .returned (.bool (eqB (tkA L i) t)) ∧ Below w.heap.size w w' := by
 have hb : Below w.heap.size w (w.alloc (t.obj (0, 0))) := below_alloc w _
 have hB : Blk (w.alloc (t.obj (0, 0))) w.heap.size t := Blk.alloc w t
 have hx := hB.box
 obtain ⟨k, s, p, l, q⟩ := t
 unfold Tk.val
 unfold Tk.obj at hb hB hx
 dsimp only at hb hB hx ⊢
 have hP := h.below hb
 have hlt := hB.lt
 obtain ⟨gb, hgb⟩ : ∃ gb, w.heap.size = gb := ⟨_, rfl⟩
 rw [hgb] at hx hlt
 have hE := fun W => tEq_any (tkA L i) ⟨k, s, p, l, q⟩ W
 have hpk : Hid (∀ W, Below (w.alloc (.cells #[.int .i64 k, .string s, .int .i64 p, .int .i64 l, .bool q] 50 (0, 0))).heap.size (w.alloc (.cells #[.int .i64 k, .string s, .int .i64 p, .int .i64 l, .bool q] 50 (0, 0))) W → Calls Tryz.prog 87 #[.pointer (some ⟨g, 0, none⟩)] W fun e w' => e = .returned (tkA L i).val ∧ Below W.heap.size W w') := zH (fun W hW => paPeek_any (hP.below hW))
 obtain ⟨tk, htk⟩ : ∃ tk, tkA L i = tk := ⟨_, rfl⟩
 rw [htk] at hE hpk
 simp only [htk]
 obtain ⟨R, hR⟩ : ∃ R, eqB tk ⟨k, s, p, l, q⟩ = R := ⟨_, rfl⟩
 rw [hR] at hE
 simp only [hR]
 obtain ⟨tkv, htkv⟩ : ∃ v, tk.val = v := ⟨_, rfl⟩
 rw [htkv] at hE hpk
 have hE2 := zH hE
 clear hE htk hR htkv
 replace h := zH h
 replace hP := zH hP
 replace hB := zH hB
 replace hb := zH hb
 go_enter Tryz.func83, Tryz.ntmps83
 go_upto_region 1 with fail
 generalize w.alloc (.cells #[.int .i64 k, .string s, .int .i64 p, .int .i64 l, .bool q] 50 (0, 0)) = W1 at *
 have hS : RowKit.Below W1.heap.size W1 W1.drew := (RowKit.Below.refl _ _).drew
 refine wp_region_held_drew (S := fun w' => RowKit.Below W1.heap.size W1 w') (by kernel_rfl) hS (fun _ => ?_)
 generalize World.drew W1 = WD at hS ⊢
 refine wpAnyH_take (i := 0) (v := .pointer (some ⟨g, 0, none⟩)) rfl (by kernel_rfl) (by kernel_rfl) (by kernel_rfl) (fun _ _ _ h => h) (Or.inl ⟨by kernel_rfl, ?_⟩) hS ?_
 ·
  intro w hSw
  clear hx
  go_simp
 try simp only [List.getElem_toArray, List.getElem_cons_succ, List.getElem_cons_zero, Act.put, List.setIfInBounds_toArray, List.set_cons_zero, List.set_cons_succ]
 refine wpAnyH_take (i := 2) (v := .agg #[.int .i64 k, .string s, .int .i64 p, .int .i64 l, .bool q]) rfl (by kernel_rfl) (by kernel_rfl) (by kernel_rfl) (fun _ _ _ h => h) (Or.inl ⟨by kernel_rfl, ?_⟩) hS ?_
 ·
  intro w hSw
  have e0 := (hSw.cell (p := ⟨gb, 0, none⟩) hlt).trans hx.1
  have e1 := (hSw.cell (p := ⟨gb, 1, none⟩) hlt).trans hx.2.1
  have e2 := (hSw.cell (p := ⟨gb, 2, none⟩) hlt).trans hx.2.2.1
  have e3 := (hSw.cell (p := ⟨gb, 3, none⟩) hlt).trans hx.2.2.2.1
  have e4 := (hSw.cell (p := ⟨gb, 4, none⟩) hlt).trans hx.2.2.2.2
  clear hx
  go_simp
 try simp only [List.getElem_toArray, List.getElem_cons_succ, List.getElem_cons_zero, Act.put, List.setIfInBounds_toArray, List.set_cons_zero, List.set_cons_succ]
 refine wpAnyH_ready (rs := [1]) (by kernel_rfl) (by decide) ?_
 refine AllReadyH.cons rfl (fun K' hK => ?_) AllReadyH.nil
 rw [if_pos (by kernel_rfl)]
 refine oper_call (run_call1 cf_paPeek) ((uH hpk WD hS).mono ?_)
 rintro e WX ⟨rfl, hbX⟩
 have hS' : RowKit.Below W1.heap.size W1 WX := hS.trans (hbX.mono hS.size)
 refine ⟨_, rfl, hK.out _ _ hS' (fun _ => ?_)⟩
 clear hK K' hS
 have hS := hS'
 clear hS'
 generalize WX = WD at *
 try simp only [List.getElem_toArray, List.getElem_cons_succ, List.getElem_cons_zero, Act.put, List.setIfInBounds_toArray, List.set_cons_zero, List.set_cons_succ]
 refine wpAnyH_ready (rs := [3]) (by kernel_rfl) (by decide) ?_
 refine AllReadyH.cons rfl (fun K' hK => ?_) AllReadyH.nil
 rw [if_pos (by kernel_rfl)]
 refine oper_call (run_call2 cf_tEq) ((uH hE2 WD).mono ?_)
 rintro e WX ⟨rfl, hbX⟩
 have hS' : RowKit.Below W1.heap.size W1 WX := hS.trans (hbX.mono hS.size)
 refine ⟨_, rfl, hK.out _ _ hS' (fun _ => ?_)⟩
 clear hK K' hS
 have hS := hS'
 clear hS'
 generalize WX = WD at *
 try simp only [List.getElem_toArray, List.getElem_cons_succ, List.getElem_cons_zero, Act.put, List.setIfInBounds_toArray, List.set_cons_zero, List.set_cons_succ]
 refine wpAnyH_ready (rs := [4]) (by kernel_rfl) (by decide) ?_
 refine AllReadyH.cons rfl (fun K' hK => ?_) AllReadyH.nil
 rw [if_pos (by kernel_rfl)]
 refine oper_of_run (v := .bool R) (w' := WD) (rfl) ?_
 refine hK.out _ _ hS (fun _ => ?_)
 clear hK K'
 try simp only [List.getElem_toArray, List.getElem_cons_succ, List.getElem_cons_zero, Act.put, List.setIfInBounds_toArray, List.set_cons_zero, List.set_cons_succ]
 refine wpAnyH_done (by kernel_rfl) ?_ _
 have hbf := (uH hb).trans (hS.mono (uH hb).size)
 clear hS hx
 replace hbf := zH hbf
 go_wp2
 go_ret
 exact ⟨rfl, uH hbf⟩
set_option maxHeartbeats 2000000 in
set_option maxRecDepth 100000 in
theorem paIsKind_any {g : Nat} {tv : Value} {L : List Tk} {i d : Nat} {w : World} (h : PaW g tv L i d w) (k : Int) : Calls Tryz.prog 68 #[.pointer (some ⟨g, 0, none⟩), .int .i64 k] w fun e w' => e = .returned (.bool (knd L i k)) ∧ Below w.heap.size w w' := by
 have hP := zH (paPeek_any h)
 have hk : ((tkA L i).k == k) = knd L i k := rfl
 obtain ⟨R, hR⟩ : ∃ R, knd L i k = R := ⟨_, rfl⟩
 rw [hR] at hk
 simp only [hR]
 clear hR h
 unfold Tk.val at hP
 generalize tkA L i = t at *
 have hfl := run_field_tok0
 go_enter Tryz.func68, Tryz.ntmps68
 go_wp2_with fail
 refine (uH hP).mono ?_
 rintro e W1 ⟨rfl, hb⟩
 clear hP
 replace hb := zH hb
 go_wp2
 go_ret
 exact ⟨rfl, uH hb⟩
set_option maxHeartbeats 2000000 in
set_option maxRecDepth 100000 in
theorem paNext_any {g : Nat} {tv : Value} {L : List Tk} {i d : Nat} {w : World} (h : PaW g tv L i d w) (hi : i < L.length) : Calls Tryz.prog 84 #[.pointer (some ⟨g, 0, none⟩)] w fun e w' => e = .returned (.int .i64 i) ∧ PaW g tv L (i + 1) d w' ∧ MoP g w w' := by
 have hF := zH (h.set1 (i + 1))
 have c1 := h.c1
 have f1 := h.fr 1
 have hln := h.ln
 have hc := h.set1 (i + 1) |>.1.c1
 have e1 : ((i + 1 : Nat) : Int) = (i : Int) + 1 := by omega
 rw [e1] at hF hc
 replace h := zH h
 go_enter Tryz.func84, Tryz.ntmps84
 go_wp2
 go_ret
 exact ⟨rfl, uH hF⟩
set_option maxHeartbeats 2000000 in
set_option maxRecDepth 100000 in
theorem paEnter_any {g : Nat} {tv : Value} {L : List Tk} {i d : Nat} {w : World} (h : PaW g tv L i d w) (hd : d < 40) : Calls Tryz.prog 125 #[.pointer (some ⟨g, 0, none⟩)] w fun e w' => e = .returned (.tuple #[]) ∧ PaW g tv L i (d + 1) w' ∧ MoP g w w' := by
 have hF := zH (h.set2 (d + 1))
 have c1 := h.c2
 have f1 := h.fr 2
 have hdz : ((d : Int) == 40) = false := by simp; omega
 have e1 : ((d + 1 : Nat) : Int) = (d : Int) + 1 := by omega
 rw [e1] at hF
 replace h := zH h
 go_enter Tryz.func125, Tryz.ntmps125
 go_wp2
 exact ⟨rfl, _, results_none rfl _ _ _, rfl, uH hF⟩
set_option maxHeartbeats 2000000 in
set_option maxRecDepth 100000 in
theorem paEnter_bad {g : Nat} {tv : Value} {L : List Tk} {i : Nat} {w : World} (h : PaW g tv L i 40 w) : Calls Tryz.prog 125 #[.pointer (some ⟨g, 0, none⟩)] w fun e w' => e = .panicked PC ∧ w' = w := by
 have c1 := h.c2
 replace h := zH h
 go_enter Tryz.func125, Tryz.ntmps125
 go_wp2_with fail
 refine (paFail_any g w).mono ?_
 rintro e W1 ⟨rfl, rfl⟩
 go_wp2
 exact ⟨rfl, rfl, rfl⟩
set_option maxHeartbeats 2000000 in
set_option maxRecDepth 100000 in
theorem paLeave_any {g : Nat} {tv : Value} {L : List Tk} {i d : Nat} {w : World} (h : PaW g tv L i (d + 1) w) (hd : d < 40) : Calls Tryz.prog 109 #[.pointer (some ⟨g, 0, none⟩)] w fun e w' => e = .returned (.tuple #[]) ∧ PaW g tv L i d w' ∧ MoP g w w' := by
 have hF := zH (h.set2 d)
 have c1 := h.c2
 have f1 := h.fr 2
 have e1 : ((d + 1 : Nat) : Int) = (d : Int) + 1 := by omega
 rw [e1] at c1
 have e2 : (d : Int) + 1 - 1 = d := by omega
 replace h := zH h
 go_enter Tryz.func109, Tryz.ntmps109
 go_wp2
 exact ⟨rfl, _, results_none rfl _ _ _, rfl, uH hF⟩
end Go.Proofs.YtiknnobgoamgcaaGreatDoor

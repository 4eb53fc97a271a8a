/-
  Trees in memory: a slice of nodes holds a forest.
-/
import Derived.Test.YthnapcdanccohaaDoorRows
import Derived.Test.YthnapcdanccohaaDoorBts
import Derived.Test.YthnapcdanccohaaDoorNdMath
import Derived.Lib.SmallJoins
import Derived.Deep.DeepAppendWide
namespace Go.Proofs.YthnapcdanccohaaDoor
open Go.RowKit Go.Lib
set_option linter.unusedSimpArgs false
set_option linter.unusedVariables false
/-- Block g is a row of nodes. -/
def TagQ (P : Nat → Prop) (w : World) (g : Nat) : Prop := P g ∧ ∃ cur, w.heap[g]? = some (.cells cur 26 (0, 0))
/-- At this place the nodes of a forest stand one behind the other. -/
def NdQ (P : Nat → Prop) (w : World) : F → Nat → Nat → Prop
  | .nil, _, _ => True
  | .cons k t c r, g, o => w.cell? ⟨g, o, none⟩ = some (.int .i64 k) ∧ w.cell? ⟨g, o + 1, none⟩ = some (.int .i64 t) ∧
    (∃ a n cap, w.cell? ⟨g, o + 2, none⟩ = some (.slice a n cap) ∧ n = c.len ∧ (n ≤ cap ∧ (a = none → cap = 0)) ∧ cap ≤ maxLen ∧ (0 < n → ∃ g' o', a = some ⟨g', o', none⟩ ∧ TagQ P w g' ∧ NdQ P w c g' o')) ∧ NdQ P w r g (o + 3)
/-- The slice holds the forest. -/
def SlQ (P : Nat → Prop) (w : World) (a : Option Addr) (n cap : Nat) (c : F) : Prop := n = c.len ∧ (n ≤ cap ∧ (a = none → cap = 0)) ∧ cap ≤ maxLen ∧ (0 < n → ∃ g o, a = some ⟨g, o, none⟩ ∧ TagQ P w g ∧ NdQ P w c g o)
section
variable {P : Nat → Prop}
theorem NdQ.cons_iff {w : World} {k t : Int} {c r : F} {g o : Nat} : NdQ P w (.cons k t c r) g o ↔ w.cell? ⟨g, o, none⟩ = some (.int .i64 k) ∧ w.cell? ⟨g, o + 1, none⟩ = some (.int .i64 t) ∧ (∃ a n cap, w.cell? ⟨g, o + 2, none⟩ = some (.slice a n cap) ∧ SlQ P w a n cap c) ∧ NdQ P w r g (o + 3) := Iff.rfl
theorem TagQ.lt {w : World} {g : Nat} (h : TagQ P w g) : g < w.heap.size := by obtain ⟨_, cur, h⟩ := h; exact (Array.getElem?_eq_some_iff.1 h).1
/-- What rows of nodes there are is as it was. -/
def KeepQ (P : Nat → Prop) (w w' : World) : Prop := ∀ g, TagQ P w g → w'.heap[g]? = w.heap[g]?
theorem KeepQ.tag {w w' : World} (h : KeepQ P w w') {g : Nat} (hg : TagQ P w g) : TagQ P w' g := by
  have := h g hg
  obtain ⟨hp, cur, hh⟩ := hg
  exact ⟨hp, cur, by rw [this]; exact hh⟩
theorem KeepQ.cell {w w' : World} (h : KeepQ P w w') {g : Nat} (hg : TagQ P w g) (o : Nat) : w'.cell? ⟨g, o, none⟩ = w.cell? ⟨g, o, none⟩ := by
  unfold World.cell?
  dsimp only
  rw [h g hg]
theorem NdQ.keep {w w' : World} (h : KeepQ P w w') : ∀ (f : F) (g o : Nat), TagQ P w g → NdQ P w f g o → NdQ P w' f g o
  | .nil, _, _, _, _ => trivial
  | .cons k t c r, g, o, hg, hn => by
    obtain ⟨h0, h1, ⟨a, n, cap, h2, e1, e2, e3, h3⟩, h4⟩ := hn
    exact ⟨by rw [h.cell hg]; exact h0, by rw [h.cell hg]; exact h1, ⟨a, n, cap, by rw [h.cell hg]; exact h2, e1, e2, e3, fun hp => by
      obtain ⟨g', o', e, ht, hc⟩ := h3 hp
      exact ⟨g', o', e, h.tag ht, NdQ.keep h c g' o' ht hc⟩⟩, NdQ.keep h r g (o + 3) hg h4⟩
theorem SlQ.keep {w w' : World} (h : KeepQ P w w') {a : Option Addr} {n cap : Nat} {c : F} (hs : SlQ P w a n cap c) : SlQ P w' a n cap c := by
  obtain ⟨e1, e2, e3, h3⟩ := hs
  refine ⟨e1, e2, e3, fun hp => ?_⟩
  obtain ⟨g, o, e, ht, hc⟩ := h3 hp
  exact ⟨g, o, e, h.tag ht, hc.keep h c g o ht⟩
theorem keep_below {w w' : World} (h : Below w.heap.size w w') : KeepQ P w w' := fun g hg => h.block g hg.lt
theorem keep_drew (w : World) (n : Nat) : KeepQ P w (w.drewN n) := fun _ _ => rfl
theorem SlQ.below {w w' : World} {a : Option Addr} {n cap : Nat} {c : F} (hs : SlQ P w a n cap c) (h : Below w.heap.size w w') : SlQ P w' a n cap c := hs.keep (keep_below h)
/-- A row that holds no nodes is written. -/
theorem keep_grown {w w' : World} {r : Option Nat} (h : w.grownBy w' r) (hr : ∀ g, r = some g → ¬ TagQ P w g) : KeepQ P w w' := fun g hg => h.block g hg.lt (fun e => hr g e.symm hg)
theorem keep_set {w : World} {p : Addr} (v : Value) (h : ¬ TagQ P w p.block) : KeepQ P w (w.setCell p v) := fun g hg => Below.heap_setCell _ _ _ g (fun e => h (e ▸ hg))
theorem SlQ.nn {w : World} {a : Option Addr} {n cap : Nat} {c : F} (h : SlQ P w a n cap c) : a = none → cap = 0 := h.2.1.2
theorem KeepQ.trans {a b c : World} (h : KeepQ P a b) (k : KeepQ P b c) : KeepQ P a c := fun g hg => (k g (h.tag hg)).trans (h g hg)
theorem sl_nil (w : World) (a : Option Addr) (cap : Nat) (h : cap ≤ maxLen) (h' : a = none → cap = 0) : SlQ P w a 0 cap .nil := ⟨rfl, ⟨Nat.zero_le _, h'⟩, h, fun h => absurd h (Nat.lt_irrefl 0)⟩
theorem NdQ.drop {w : World} : ∀ {f : F} {g o : Nat} (i : Nat), NdQ P w f g o → NdQ P w (f.drop i) g (o + i * 3)
  | f, g, o, 0, h => by cases f <;> simpa [F.drop] using h
  | .nil, g, o, i + 1, h => trivial
  | .cons k t c r, g, o, i + 1, h => by
    have := NdQ.drop i h.2.2.2
    rw [show o + (i + 1) * 3 = o + 3 + i * 3 by omega]
    exact this
/-- The i-th node. -/
theorem SlQ.at {w : World} {a : Option Addr} {n cap : Nat} {c : F} (h : SlQ P w a n cap c) {i : Nat} (hi : i < n) : ∃ g o k t a' n' cap' c', a = some ⟨g, o, none⟩ ∧ TagQ P w g ∧ c.drop i = .cons k t c' (c.drop (i + 1)) ∧
    w.cell? ⟨g, o + i * 3, none⟩ = some (.int .i64 k) ∧ w.cell? ⟨g, o + i * 3 + 1, none⟩ = some (.int .i64 t) ∧ w.cell? ⟨g, o + i * 3 + 2, none⟩ = some (.slice a' n' cap') ∧ SlQ P w a' n' cap' c' := by
  obtain ⟨e1, e2, e3, h3⟩ := h
  obtain ⟨g, o, e, ht, hc⟩ := h3 (by omega)
  obtain ⟨k, t, c', hd⟩ := F.drop_cons (f := c) (i := i) (by omega)
  have hn := hc.drop i
  rw [hd] at hn
  obtain ⟨h0, h1, ⟨a', n', cap', h2, h5⟩, h4⟩ := hn
  exact ⟨g, o, k, t, a', n', cap', c', e, ht, hd, h0, h1, h2, h5⟩
/-- The first node, and the rest of the slice. -/
theorem SlQ.tail {w : World} {a : Option Addr} {n cap : Nat} {k t : Int} {c r : F} (h : SlQ P w a n cap (.cons k t c r)) : ∃ g o, a = some ⟨g, o, none⟩ ∧ n = r.len + 1 ∧ ∀ o', (o' = o + 3 ∨ cap = 1) → SlQ P w (some ⟨g, o', none⟩) r.len (cap - 1) r := by
  obtain ⟨e1, e2, e3, h3⟩ := h
  simp only [F.len] at e1
  obtain ⟨g, o, e, ht, hc⟩ := h3 (by omega)
  refine ⟨g, o, e, e1, fun o' ho' => ⟨rfl, ⟨by omega, fun h => by cases h⟩, by omega, fun hp => ⟨g, o', rfl, ht, ?_⟩⟩⟩
  rcases ho' with rfl | h1
  · exact hc.2.2.2
  · omega
/-- One value, one forest. -/
theorem NdQ.unique {w : World} : ∀ (f f' : F) (g o : Nat), f.len = f'.len → NdQ P w f g o → NdQ P w f' g o → f = f'
  | .nil, .nil, _, _, _, _, _ => rfl
  | .nil, .cons _ _ _ _, _, _, h, _, _ => by simp [F.len] at h
  | .cons _ _ _ _, .nil, _, _, h, _, _ => by simp [F.len] at h
  | .cons k t c r, .cons k' t' c' r', g, o, h, hn, hm => by
    obtain ⟨h0, h1, ⟨a, n, cap, h2, e1, e2, e3, h3⟩, h4⟩ := hn
    obtain ⟨m0, m1, ⟨a', n', cap', m2, f1, f2, f3, m3⟩, m4⟩ := hm
    rw [h0] at m0
    rw [h1] at m1
    rw [h2] at m2
    injection m0 with m0
    injection m0 with _ m0
    injection m1 with m1
    injection m1 with _ m1
    injection m2 with m2
    injection m2 with m2a m2b m2c
    subst m0 m1 m2a m2b m2c
    have hr := NdQ.unique r r' g (o + 3) (by simpa [F.len] using h) h4 m4
    have hc : c = c' := by
      rcases Nat.eq_zero_or_pos n with h0 | hp
      · have q1 : c.len = 0 := by omega
        have q2 : c'.len = 0 := by omega
        cases c with
        | nil => cases c' with
          | nil => rfl
          | cons _ _ _ _ => simp [F.len] at q2
        | cons _ _ _ _ => simp [F.len] at q1
      · obtain ⟨g1, o1, e, _, hc1⟩ := h3 hp
        obtain ⟨g2, o2, e', _, hc2⟩ := m3 hp
        rw [e] at e'
        injection e' with e'
        injection e' with e' e''
        subst e' e''
        exact NdQ.unique c c' g1 o1 (by omega) hc1 hc2
    rw [hr, hc]
theorem SlQ.unique {w : World} {a : Option Addr} {n cap : Nat} {c c' : F} (h : SlQ P w a n cap c) (h' : SlQ P w a n cap c') : c = c' := by
  obtain ⟨e1, e2, e3, h3⟩ := h
  obtain ⟨f1, f2, f3, m3⟩ := h'
  rcases Nat.eq_zero_or_pos n with h0 | hp
  · have q1 : c.len = 0 := by omega
    have q2 : c'.len = 0 := by omega
    cases c with
    | nil => cases c' with
      | nil => rfl
      | cons _ _ _ _ => simp [F.len] at q2
    | cons _ _ _ _ => simp [F.len] at q1
  · obtain ⟨g1, o1, e, _, hc1⟩ := h3 hp
    obtain ⟨g2, o2, e', _, hc2⟩ := m3 hp
    rw [e] at e'
    injection e' with e'
    injection e' with e' e''
    subst e' e''
    exact NdQ.unique c c' g1 o1 (by omega) hc1 hc2
theorem tag_set {w : World} {g p q : Nat} {v : Value} (h : TagQ P w g) : TagQ P (w.setCell ⟨p, q, none⟩ v) g := by
  obtain ⟨hP, cur, h⟩ := h
  by_cases e : g = p
  · subst e
    exact ⟨hP, _, Joins.block_setCell (i := q) h v⟩
  · exact ⟨hP, cur, by rw [Below.heap_setCell _ _ _ g e]; exact h⟩
/-- A slice of nodes within them is written over by one that holds the same forest: all hold what they held. -/
theorem NdQ.swap {w : World} {p : Nat} {q : Nat} {a a' : Option Addr} {n n' cap cap' : Nat} {c1 : F} (hp : w.cell? ⟨p, q, none⟩ = some (.slice a n cap)) (h : SlQ P w a n cap c1) (h' : SlQ P w a' n' cap' c1) :
    ∀ (f : F) (g o : Nat), NdQ P w f g o → NdQ P (w.setCell ⟨p, q, none⟩ (.slice a' n' cap')) f g o
  | .nil, _, _, _ => trivial
  | .cons k t c r, g, o, hn => by
    obtain ⟨h0, h1, ⟨b, m, cb, h2, e1, e2, e3, h3⟩, h4⟩ := hn
    have hs : SlQ P w b m cb c := ⟨e1, e2, e3, h3⟩
    refine ⟨?_, ?_, ?_, NdQ.swap hp h h' r g (o + 3) h4⟩
    · rw [World.cell?_setCell_other _ _ _ _ (fun e => by rw [← e, hp] at h0; cases h0)]; exact h0
    · rw [World.cell?_setCell_other _ _ _ _ (fun e => by rw [← e, hp] at h1; cases h1)]; exact h1
    · by_cases e : (⟨g, o + 2, none⟩ : Addr) = ⟨p, q, none⟩
      · rw [e, hp] at h2
        injection h2 with h2
        injection h2 with i1 i2 i3
        subst i1 i2 i3
        obtain rfl := hs.unique h
        obtain ⟨f1, f2, f3, m3⟩ := h'
        refine ⟨a', n', cap', ?_, f1, f2, f3, fun hp' => ?_⟩
        · rw [e]
          exact World.cell?_setCell_same _ _ _ (by rw [hp])
        · obtain ⟨g', o', e', ht, hc⟩ := m3 hp'
          exact ⟨g', o', e', tag_set ht, NdQ.swap hp h ⟨f1, f2, f3, m3⟩ c g' o' hc⟩
      · refine ⟨b, m, cb, ?_, e1, e2, e3, fun hp' => ?_⟩
        · rw [World.cell?_setCell_other _ _ _ _ (fun h => e h.symm)]; exact h2
        · obtain ⟨g', o', e', ht, hc⟩ := h3 hp'
          exact ⟨g', o', e', tag_set ht, NdQ.swap hp h h' c g' o' hc⟩
theorem SlQ.swap {w : World} {p : Nat} {q : Nat} {a a' b : Option Addr} {n n' cap cap' m cb : Nat} {c1 c : F} (hs : SlQ P w b m cb c) (hp : w.cell? ⟨p, q, none⟩ = some (.slice a n cap)) (h : SlQ P w a n cap c1) (h' : SlQ P w a' n' cap' c1) :
    SlQ P (w.setCell ⟨p, q, none⟩ (.slice a' n' cap')) b m cb c := by
  obtain ⟨e1, e2, e3, h3⟩ := hs
  refine ⟨e1, e2, e3, fun hp' => ?_⟩
  obtain ⟨g', o', e', ht, hc⟩ := h3 hp'
  exact ⟨g', o', e', tag_set ht, NdQ.swap hp h h' c g' o' hc⟩
end
/-- Rows of fewer kinds, or of more. -/
theorem NdQ.mono {P P' : Nat → Prop} {w : World} (hp : ∀ g, TagQ P w g → P' g) : ∀ {f : F} {g o : Nat}, NdQ P w f g o → NdQ P' w f g o
  | .nil, _, _, _ => trivial
  | .cons k t c r, g, o, ⟨h0, h1, ⟨a, n, cap, h2, e1, e2, e3, h3⟩, h4⟩ => ⟨h0, h1, ⟨a, n, cap, h2, e1, e2, e3, fun h => by
    obtain ⟨g', o', e, ht, hc⟩ := h3 h
    exact ⟨g', o', e, ⟨hp g' ht, ht.2⟩, NdQ.mono hp hc⟩⟩, NdQ.mono hp h4⟩
theorem SlQ.mono {P P' : Nat → Prop} {w : World} (hp : ∀ g, TagQ P w g → P' g) {a : Option Addr} {n cap : Nat} {c : F} (h : SlQ P w a n cap c) : SlQ P' w a n cap c := by
  obtain ⟨e1, e2, e3, h3⟩ := h
  refine ⟨e1, e2, e3, fun h => ?_⟩
  obtain ⟨g', o', e, ht, hc⟩ := h3 h
  exact ⟨g', o', e, ⟨hp g' ht, ht.2⟩, NdQ.mono hp hc⟩
/-- Whatever rows. -/
abbrev Tag (w : World) (g : Nat) : Prop := TagQ (fun _ => True) w g
abbrev NdAt (w : World) (f : F) (g o : Nat) : Prop := NdQ (fun _ => True) w f g o
abbrev Sl (w : World) (a : Option Addr) (n cap : Nat) (c : F) : Prop := SlQ (fun _ => True) w a n cap c
abbrev KeepN (w w' : World) : Prop := KeepQ (fun _ => True) w w'
theorem SlQ.any {P : Nat → Prop} {w : World} {a : Option Addr} {n cap : Nat} {c : F} (h : SlQ P w a n cap c) : Sl w a n cap c := h.mono (fun _ _ => trivial)
end Go.Proofs.YthnapcdanccohaaDoor

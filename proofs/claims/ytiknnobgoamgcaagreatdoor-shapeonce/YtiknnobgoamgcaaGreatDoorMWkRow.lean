/-
  Trees that came in: as NdRow's, but nothing is said of their blocks beyond that they are there.
-/
import Derived.Test.YtiknnobgoamgcaaGreatDoorB02
namespace Go.Proofs.YtiknnobgoamgcaaGreatDoor
open Go.RowKit Go.Lib
set_option linter.unusedSimpArgs false
set_option linter.unusedVariables false
/-- At this place the nodes of a forest stand one behind the other. -/
def WdQ (w : World) : F → Nat → Nat → Prop
  | .nil, _, _ => True
  | .cons k t c r, g, o => w.cell? ⟨g, o, none⟩ = some (.int .i64 k) ∧ w.cell? ⟨g, o + 1, none⟩ = some (.int .i64 t) ∧
    (∃ a n cap, w.cell? ⟨g, o + 2, none⟩ = some (.slice a n cap) ∧ n = c.len ∧ (n ≤ cap ∧ (a = none → cap = 0)) ∧ cap ≤ maxLen ∧ (0 < n → ∃ g' o', a = some ⟨g', o', none⟩ ∧ g' < w.heap.size ∧ WdQ w c g' o')) ∧ WdQ w r g (o + 3)
/-- The slice holds the forest. -/
def Wl (w : World) (a : Option Addr) (n cap : Nat) (c : F) : Prop := n = c.len ∧ (n ≤ cap ∧ (a = none → cap = 0)) ∧ cap ≤ maxLen ∧ (0 < n → ∃ g o, a = some ⟨g, o, none⟩ ∧ g < w.heap.size ∧ WdQ w c g o)
theorem NdQ.wd {w : World} : ∀ (f : F) (g o : Nat), NdQ (fun _ => True) w f g o → WdQ w f g o
  | .nil, _, _, _ => trivial
  | .cons k t c r, g, o, h => by
    obtain ⟨h0, h1, ⟨a, n, cap, h2, e1, e2, e3, h3⟩, h4⟩ := h
    exact ⟨h0, h1, ⟨a, n, cap, h2, e1, e2, e3, fun hp => by
      obtain ⟨g', o', e, ht, hc⟩ := h3 hp
      exact ⟨g', o', e, ht.lt, NdQ.wd c g' o' hc⟩⟩, NdQ.wd r g (o + 3) h4⟩
theorem Sl.wl {w : World} {a : Option Addr} {n cap : Nat} {c : F} (h : Sl w a n cap c) : Wl w a n cap c := by
  obtain ⟨e1, e2, e3, h3⟩ := h
  refine ⟨e1, e2, e3, fun hp => ?_⟩
  obtain ⟨g, o, e, ht, hc⟩ := h3 hp
  exact ⟨g, o, e, ht.lt, NdQ.wd c g o hc⟩
theorem WdQ.below {w w' : World} (h : Below w.heap.size w w') : ∀ (f : F) (g o : Nat), g < w.heap.size → WdQ w f g o → WdQ w' f g o
  | .nil, _, _, _, _ => trivial
  | .cons k t c r, g, o, hg, hn => by
    obtain ⟨h0, h1, ⟨a, n, cap, h2, e1, e2, e3, h3⟩, h4⟩ := hn
    have hc : ∀ o, w'.cell? ⟨g, o, none⟩ = w.cell? ⟨g, o, none⟩ := fun o => by
      unfold World.cell?
      dsimp only
      rw [h.block g hg]
    exact ⟨by rw [hc]; exact h0, by rw [hc]; exact h1, ⟨a, n, cap, by rw [hc]; exact h2, e1, e2, e3, fun hp => by
      obtain ⟨g', o', e, ht, hc'⟩ := h3 hp
      exact ⟨g', o', e, Nat.lt_of_lt_of_le ht h.size, WdQ.below h c g' o' ht hc'⟩⟩, WdQ.below h r g (o + 3) hg h4⟩
theorem Wl.below {w w' : World} {a : Option Addr} {n cap : Nat} {c : F} (hs : Wl w a n cap c) (h : Below w.heap.size w w') : Wl w' a n cap c := by
  obtain ⟨e1, e2, e3, h3⟩ := hs
  refine ⟨e1, e2, e3, fun hp => ?_⟩
  obtain ⟨g, o, e, ht, hc⟩ := h3 hp
  exact ⟨g, o, e, Nat.lt_of_lt_of_le ht h.size, hc.below h c g o ht⟩
theorem Wl.nn {w : World} {a : Option Addr} {n cap : Nat} {c : F} (h : Wl w a n cap c) : a = none → cap = 0 := h.2.1.2
theorem WdQ.drop {w : World} : ∀ {f : F} {g o : Nat} (i : Nat), WdQ w f g o → WdQ w (f.drop i) g (o + i * 3)
  | f, g, o, 0, h => by cases f <;> simpa [F.drop] using h
  | .nil, g, o, i + 1, h => trivial
  | .cons k t c r, g, o, i + 1, h => by
    have := WdQ.drop i h.2.2.2
    rw [show o + (i + 1) * 3 = o + 3 + i * 3 by omega]
    exact this
/-- The i-th node. -/
theorem Wl.at {w : World} {a : Option Addr} {n cap : Nat} {c : F} (h : Wl w a n cap c) {i : Nat} (hi : i < n) : ∃ g o k t a' n' cap' c', a = some ⟨g, o, none⟩ ∧ g < w.heap.size ∧ c.drop i = .cons k t c' (c.drop (i + 1)) ∧
    w.cell? ⟨g, o + i * 3, none⟩ = some (.int .i64 k) ∧ w.cell? ⟨g, o + i * 3 + 1, none⟩ = some (.int .i64 t) ∧ w.cell? ⟨g, o + i * 3 + 2, none⟩ = some (.slice a' n' cap') ∧ Wl w a' n' cap' c' := by
  obtain ⟨e1, e2, e3, h3⟩ := h
  obtain ⟨g, o, e, ht, hc⟩ := h3 (by omega)
  obtain ⟨k, t, c', hd⟩ := F.drop_cons (f := c) (i := i) (by omega)
  have hn := hc.drop i
  rw [hd] at hn
  obtain ⟨h0, h1, ⟨a', n', cap', h2, h5⟩, h4⟩ := hn
  exact ⟨g, o, k, t, a', n', cap', c', e, ht, hd, h0, h1, h2, h5⟩
/-- The first node, and the rest of the slice. -/
theorem Wl.tail {w : World} {a : Option Addr} {n cap : Nat} {k t : Int} {c r : F} (h : Wl w a n cap (.cons k t c r)) : ∃ g o, a = some ⟨g, o, none⟩ ∧ n = r.len + 1 ∧ ∀ o', (o' = o + 3 ∨ cap = 1) → Wl w (some ⟨g, o', none⟩) r.len (cap - 1) r := by
  obtain ⟨e1, e2, e3, h3⟩ := h
  simp only [F.len] at e1
  obtain ⟨g, o, e, ht, hc⟩ := h3 (by omega)
  refine ⟨g, o, e, e1, fun o' ho' => ⟨rfl, ⟨by omega, fun h => by cases h⟩, by omega, fun hp => ⟨g, o', rfl, ht, ?_⟩⟩⟩
  rcases ho' with rfl | h1
  · exact hc.2.2.2
  · omega
/-- The slices of a pile, the topmost first, hold these forests. -/
def Wtk (w : World) : List Value → List F → Prop
  | [], [] => True
  | v :: vs, f :: fs => (∃ a n cap, v = .slice a n cap ∧ Wl w a n cap f) ∧ Wtk w vs fs
  | _, _ => False
theorem Wtk.len {w : World} : ∀ {vs : List Value} {fs : List F}, Wtk w vs fs → vs.length = fs.length
  | [], [], _ => rfl
  | v :: vs, f :: fs, h => by simp only [List.length_cons]; rw [Wtk.len h.2]
  | [], _ :: _, h => h.elim
  | _ :: _, [], h => h.elim
/-- A slice holds these tokens, wherever it begins. -/
def Tows (w : World) (v : Value) (L : List Tk) : Prop :=
  ∃ a c, v = .slice a L.length c ∧ L.length ≤ c ∧ c ≤ maxLen ∧ (0 < L.length → ∃ g o, a = some ⟨g, o, none⟩ ∧ g < w.heap.size ∧ ∀ i t, L[i]? = some t → TkAt w g (o + i * 5) t)
theorem Toks.tows {w : World} {v : Value} {L : List Tk} (h : Toks w v L) : Tows w v L := by
  obtain ⟨a, c, e, h1, h2, h3⟩ := h
  refine ⟨a, c, e, h1, h2, fun h0 => ?_⟩
  obtain ⟨g, e, hg, hc⟩ := h3 h0
  exact ⟨g, 0, e, hg, fun i t ht => by rw [Nat.zero_add]; exact hc i t ht⟩
theorem Tows.below {w w' : World} {v : Value} {L : List Tk} (h : Tows w v L) (hb : Below w.heap.size w w') : Tows w' v L := by
  obtain ⟨a, c, e, h1, h2, h3⟩ := h
  refine ⟨a, c, e, h1, h2, fun h0 => ?_⟩
  obtain ⟨g, o, e, hg, hc⟩ := h3 h0
  exact ⟨g, o, e, Nat.lt_of_lt_of_le hg hb.size, fun i t ht => (hc i t ht).below hg hb⟩
theorem tkW_at {w : World} {gt o : Nat} {L : List Tk} {i : Nat} (h : ∀ j t, L[j]? = some t → TkAt w gt (o + j * 5) t) (hi : i < L.length) : TkAt w gt (o + i * 5) (tkA L i) := h i _ (tkA_in hi)
end Go.Proofs.YtiknnobgoamgcaaGreatDoor

/-
  Scopes: what a call that turns them keeps.
-/
import Derived.Test.YtlmfoieolomcfaaSpFind
namespace Go.Proofs.Ytlmfoieolomcfaa
open Go.RowKit Go.Maps Go.Lib Go.WideMaps
set_option linter.unusedSimpArgs false
set_option linter.unusedVariables false
/-- All but the blocks of S stays. -/
structure Kp (S : Nat → Prop) (w w' : World) : Prop where
  os : w'.os = w.os
  tape : w'.tape = w.tape
  output : w'.output = w.output
  size : w.heap.size ≤ w'.heap.size
  block : ∀ k, k < w.heap.size → ¬ S k → w'.heap[k]? = w.heap[k]?
theorem Kp.refl (S : Nat → Prop) (w : World) : Kp S w w := ⟨rfl, rfl, rfl, Nat.le_refl _, fun _ _ _ => rfl⟩
theorem Kp.of_below {S : Nat → Prop} {w w' : World} (h : Below w.heap.size w w') : Kp S w w' := ⟨h.os, h.tape, h.output, h.size, fun k hk _ => h.block k hk⟩
theorem Kp.trans {S S1 : Nat → Prop} {w w1 w2 : World} (h : Kp S w w1) (hs : ∀ x, S1 x → S x ∨ w.heap.size ≤ x) (k : Kp S1 w1 w2) : Kp S w w2 :=
  ⟨k.os.trans h.os, k.tape.trans h.tape, k.output.trans h.output, Nat.le_trans h.size k.size, fun i hi hn => (k.block i (Nat.lt_of_lt_of_le hi h.size) (fun hx => by
    rcases hs i hx with h1 | h1
    · exact hn h1
    · omega)).trans (h.block i hi hn)⟩
theorem Kp.set {S : Nat → Prop} {w w1 : World} (h : Kp S w w1) {b : Nat} (hb : S b ∨ w.heap.size ≤ b) (o : Nat) (v : Value) : Kp S w (w1.setCell ⟨b, o, none⟩ v) :=
  ⟨h.os, h.tape, h.output, by simpa using h.size, fun k hk hn => by
    rw [Below.heap_setCell _ _ _ k (fun e => by
      dsimp only at e
      subst e
      rcases hb with h1 | h1
      · exact hn h1
      · omega)]
    exact h.block k hk hn⟩
theorem Kp.grown {S : Nat → Prop} {w w1 w2 : World} {r : Option Nat} (h : Kp S w w1) (hg : w1.grownBy w2 r) (hr : ∀ k, r = some k → S k ∨ w.heap.size ≤ k) : Kp S w w2 :=
  ⟨hg.os.trans h.os, hg.tape.trans h.tape, hg.output.trans h.output, Nat.le_trans h.size hg.size, fun k hk hn => (hg.block k (Nat.lt_of_lt_of_le hk h.size) (fun e => by
    rcases hr k e.symm with h1 | h1
    · exact hn h1
    · omega)).trans (h.block k hk hn)⟩
theorem Kp.below {S : Nat → Prop} {w w1 w2 : World} (h : Kp S w w1) (hb : Below w1.heap.size w1 w2) : Kp S w w2 :=
  ⟨hb.os.trans h.os, hb.tape.trans h.tape, hb.output.trans h.output, Nat.le_trans h.size hb.size, fun k hk hn => (hb.block k (Nat.lt_of_lt_of_le hk h.size)).trans (h.block k hk hn)⟩
theorem Kp.drew {S : Nat → Prop} {w w1 : World} (h : Kp S w w1) : Kp S w w1.drew := ⟨h.os, h.tape, h.output, h.size, h.block⟩
theorem Kp.mono {S S' : Nat → Prop} {w w1 : World} (h : Kp S w w1) (hs : ∀ x, S x → S' x) : Kp S' w w1 := ⟨h.os, h.tape, h.output, h.size, fun k hk hn => h.block k hk fun hx => hn (hs k hx)⟩
/-- The scopes lie at g, in the blocks of S. -/
def ScQ (w : World) (g : Nat) (S : Nat → Prop) (es : List En) (bs : List Nat) (q : Nat) : Prop := ∃ ve vb mo, ScW w g S es bs ve vb mo q
theorem ScQ.below {w w' : World} {g : Nat} {S : Nat → Prop} {es : List En} {bs : List Nat} {q : Nat} (h : ScQ w g S es bs q) (hb : Below w.heap.size w w') : ScQ w' g S es bs q := by
  obtain ⟨ve, vb, mo, h⟩ := h
  exact ⟨ve, vb, mo, h.below hb⟩
theorem ScQ.keep {w w' : World} {g : Nat} {S : Nat → Prop} {es : List En} {bs : List Nat} {q : Nat} (h : ScQ w g S es bs q) (hs : w.heap.size ≤ w'.heap.size) (hb : ∀ k, S k → w'.heap[k]? = w.heap[k]?) : ScQ w' g S es bs q := by
  obtain ⟨ve, vb, mo, h⟩ := h
  exact ⟨ve, vb, mo, h.keep hs hb⟩
theorem ScQ.lt {w : World} {g : Nat} {S : Nat → Prop} {es : List En} {bs : List Nat} {q : Nat} (h : ScQ w g S es bs q) : ∀ k, S k → k < w.heap.size := by
  obtain ⟨ve, vb, mo, h⟩ := h
  exact h.lt
/-- What a call that turns them leaves. -/
def ResS (w : World) (g : Nat) (S : Nat → Prop) (es : List En) (bs : List Nat) (q : Nat) (w' : World) : Prop := ∃ S', ScQ w' g S' es bs q ∧ (∀ x, S' x → S x ∨ w.heap.size ≤ x) ∧ Kp S w w'
section
variable {w : World} {g : Nat} {S : Nat → Prop} {es : List En} {bs : List Nat} {ve vb : Value} {mo : Option Nat} {q : Nat}
theorem own_blk {w : World} {B : Nat} {e : TypeId} {sz : Nat} {v : Value} {n : Nat} {xs : List Value} (h : w.ownsRow B e sz v n xs) {k : Nat} (hk : v.ownBlock = some k) : B ≤ k ∧ ∃ cur, w.heap[k]? = some (.cells cur e (0, 0)) := by
  rcases h.2 with ⟨rfl, _⟩ | ⟨g, cap, cur, rfl, h1, h2, _⟩
  · cases hk
  · cases hk
    exact ⟨h1, cur, h2⟩
/-- The rows and the map are apart. -/
theorem ScW.eb (h : ScW w g S es bs ve vb mo q) {k : Nat} (h1 : ve.ownBlock = some k) (h2 : vb.ownBlock = some k) : False := by
  obtain ⟨_, c1, e1⟩ := own_blk h.ens h1
  obtain ⟨_, c2, e2⟩ := own_blk h.bgs h2
  rw [e1] at e2
  injection e2 with e2
  injection e2 with _ e2
  cases e2
theorem ScW.em (h : ScW w g S es bs ve vb mo q) {k : Nat} (h1 : ve.ownBlock = some k) (h2 : mo = some k) : False := by
  obtain ⟨_, c1, e1⟩ := own_blk h.ens h1
  have hm := h.map
  subst h2
  simp only [MapOk] at hm
  obtain ⟨_, m, ⟨D, ⟨es', cl, e2, _⟩, _⟩, _⟩ := hm
  rw [e1] at e2
  cases e2
theorem ScW.bm (h : ScW w g S es bs ve vb mo q) {k : Nat} (h1 : vb.ownBlock = some k) (h2 : mo = some k) : False := by
  obtain ⟨_, c1, e1⟩ := own_blk h.bgs h1
  have hm := h.map
  subst h2
  simp only [MapOk] at hm
  obtain ⟨_, m, ⟨D, ⟨es', cl, e2, _⟩, _⟩, _⟩ := hm
  rw [e1] at e2
  cases e2
theorem ScW.gm (h : ScW w g S es bs ve vb mo q) {k : Nat} (h2 : mo = some k) : g < k := by
  have hm := h.map
  subst h2
  simp only [MapOk] at hm
  exact hm.1
end
/-- The block alone. -/
def Blk3 (w : World) (g : Nat) (ve vb : Value) (mo : Option Nat) : Prop := w.heap[g]? = some (.cells #[ve, vb, .map mo] 48 (0, 0))
section
variable {w : World} {g : Nat} {ve vb : Value} {mo : Option Nat}
theorem Blk3.c0 (h : Blk3 w g ve vb mo) : w.cell? ⟨g, 0, none⟩ = some ve := by unfold Blk3 at h; simp [World.cell?, h]
theorem Blk3.c1 (h : Blk3 w g ve vb mo) : w.cell? ⟨g, 1, none⟩ = some vb := by unfold Blk3 at h; simp [World.cell?, h]
theorem Blk3.c2 (h : Blk3 w g ve vb mo) : w.cell? ⟨g, 2, none⟩ = some (.map mo) := by unfold Blk3 at h; simp [World.cell?, h]
theorem Blk3.fr (h : Blk3 w g ve vb mo) (i : Nat) : w.frozen? ⟨g, i, none⟩ = false := Joins.unfrozen_of_block h i
theorem Blk3.lt (h : Blk3 w g ve vb mo) : g < w.heap.size := (Array.getElem?_eq_some_iff.1 h).1
theorem Blk3.set0 (h : Blk3 w g ve vb mo) (v : Value) : Blk3 (w.setCell ⟨g, 0, none⟩ v) g v vb mo := Joins.block_setCell (i := 0) h v
theorem Blk3.set1 (h : Blk3 w g ve vb mo) (v : Value) : Blk3 (w.setCell ⟨g, 1, none⟩ v) g ve v mo := Joins.block_setCell (i := 1) h v
theorem Blk3.set2 (h : Blk3 w g ve vb mo) (m : Option Nat) : Blk3 (w.setCell ⟨g, 2, none⟩ (.map m)) g ve vb m := Joins.block_setCell (i := 2) h (.map m)
theorem Blk3.grown {w' : World} {r : Option Nat} (h : Blk3 w g ve vb mo) (hg : w.grownBy w' r) (hr : r ≠ some g) : Blk3 w' g ve vb mo := by
  unfold Blk3 at *
  rw [hg.block g (Blk3.lt h) (fun e => hr e.symm)]
  exact h
end
end Go.Proofs.Ytlmfoieolomcfaa

/-
  Four hands: an array of four slices of edits (the law MergeHands').
-/
import Derived.Test.YtpjpghigilbfaaaMgBegun
import Derived.Test.YtpjpghigilbfaaaEdCut
namespace Go.Proofs.Ytpjpghigilbfaaa
open Go.RowKit Go.Lib Go.Sort
set_option linter.unusedSimpArgs false
set_option linter.unusedVariables false
/-- Block b holds these four. -/
def ArrAt (w : World) (b : Nat) (vs : Nat → Value) : Prop := w.heap[b]? = some (.cells #[vs 0, vs 1, vs 2, vs 3] 43 (0, 0))
theorem ArrAt.cell {w : World} {b : Nat} {vs : Nat → Value} (h : ArrAt w b vs) {k : Nat} (hk : k < 4) : w.cell? ⟨b, k, none⟩ = some (vs k) := by
  rw [cell_of_row w b k _ _ _ h]
  match k, hk with
  | 0, _ => rfl
  | 1, _ => rfl
  | 2, _ => rfl
  | 3, _ => rfl
theorem ArrAt.lt {w : World} {b : Nat} {vs : Nat → Value} (h : ArrAt w b vs) : b < w.heap.size := (Array.getElem?_eq_some_iff.1 h).1
theorem ArrAt.kept {w w' : World} {b : Nat} {vs : Nat → Value} {r : Option Nat} (h : ArrAt w b vs) (hg : w.grownBy w' r) (hr : r ≠ some b) : ArrAt w' b vs := by
  unfold ArrAt
  rw [hg.block b h.lt (fun e => hr e.symm)]
  exact h
def upd {α : Type} (f : Nat → α) (k : Nat) (x : α) : Nat → α := fun j => if j = k then x else f j
theorem ArrAt.set {w : World} {b : Nat} {vs : Nat → Value} (h : ArrAt w b vs) {k : Nat} (hk : k < 4) (v : Value) : ArrAt (w.setCell ⟨b, k, none⟩ v) b (upd vs k v) := by
  have := Joins.block_setCell (i := k) h v
  unfold ArrAt
  rw [this]
  match k, hk with
  | 0, _ => rfl
  | 1, _ => rfl
  | 2, _ => rfl
  | 3, _ => rfl
def Hands (w : World) (b : Nat) (vs : Nat → Value) (Hs : Nat → List Ed) : Prop :=
  ArrAt w b vs ∧ (∀ j, j < 4 → OwnE w (b + 1) (vs j) (Hs j)) ∧ ∀ i j, i < 4 → j < 4 → i ≠ j → (vs i).ownBlock = none ∨ (vs i).ownBlock ≠ (vs j).ownBlock
theorem own_set {w : World} {base b o : Nat} {v u : Value} {L : List Ed} (h : OwnE w base v L) (hb : b < base) : OwnE (w.setCell ⟨b, o, none⟩ u) base v L := by
  rcases h.forms with ⟨rfl, rfl⟩ | ⟨g, cap, rfl, hg, cur, hh, h2⟩
  · exact ownE_nil _ _
  · exact RowE.own ⟨cur, by rw [Below.heap_setCell _ _ _ g (by dsimp only; omega)]; exact hh, h2⟩ hg
theorem Hands.step {w w1 w2 : World} {b g cap k n : Nat} {vs : Nat → Value} {Hs : Nat → List Ed} {e : Ed} (h : Hands w b vs Hs) (hw : w.grownBy w1 none) (hk : k < 4) (hg : w1.grownBy w2 (vs k).ownBlock)
    (ho : OwnE w2 (b + 1) (.slice (some ⟨g, 0, none⟩) n cap) (Hs k ++ [e])) (hat : (vs k).ownBlock = some g ∨ g = w1.heap.size) :
    Hands (w2.setCell ⟨b, k, none⟩ (.slice (some ⟨g, 0, none⟩) n cap)) b (upd vs k (.slice (some ⟨g, 0, none⟩) n cap)) (upd Hs k (Hs k ++ [e])) := by
  obtain ⟨h1, h2, h3⟩ := h
  have kne : (vs k).ownBlock ≠ some b := fun hh => by have := (World.ownsRow.lt (h2 k hk) b hh).1; omega
  have fresh : ∀ j, j < 4 → j ≠ k → (vs j).ownBlock = none ∨ (vs j).ownBlock ≠ some g := by
    intro j hj hjk
    rcases hat with hat | hat
    · rw [← hat]; exact h3 j k hj hk hjk
    · right
      intro e
      have := (World.ownsRow.lt (h2 j hj) g e).2
      have := hw.size
      omega
  refine ⟨((h1.kept hw (by simp)).kept hg kne).set hk _, fun j hj => ?_, fun i j hi hj hij => ?_⟩
  · unfold upd
    by_cases hjk : j = k
    · rw [if_pos hjk, if_pos hjk]
      exact own_set ho (Nat.lt_succ_self b)
    · rw [if_neg hjk, if_neg hjk]
      have q1 : OwnE w1 (b + 1) (vs j) (Hs j) := World.ownsRow.kept (h2 j hj) hw (by
        cases hv : (vs j).ownBlock with
        | none => exact .inl rfl
        | some x => exact .inr (by simp))
      exact own_set (World.ownsRow.kept q1 hg (h3 j k hj hk hjk)) (Nat.lt_succ_self b)
  · unfold upd
    by_cases hik : i = k
    · rw [if_pos hik, if_neg (show ¬ j = k by omega)]
      right
      intro e
      rcases fresh j hj (by omega) with hf | hf
      · rw [hf] at e; cases e
      · exact hf e.symm
    · rw [if_neg hik]
      by_cases hjk : j = k
      · rw [if_pos hjk]; exact fresh i hi hik
      · rw [if_neg hjk]; exact h3 i j hi hj hij
theorem hands_new (w : World) : Hands (w.alloc (.cells #[.slice none 0 0, .slice none 0 0, .slice none 0 0, .slice none 0 0] 43 (0, 0))) w.heap.size (fun _ => .slice none 0 0) (fun _ => []) :=
  ⟨heap_alloc_new w _, fun j hj => ownE_nil _ _, fun i j hi hj hij => .inl rfl⟩
/-- The four and one more, in a row. -/
theorem Hands.five {w : World} {b : Nat} {vs : Nat → Value} {Hs : Nat → List Ed} (h : Hands w b vs Hs) {v : Value} {L : List Ed} (hv : Eds w v L) (hN : ∀ c, v = .slice none 0 c → c = 0) :
    Edss (w.alloc (.cells #[vs 0, vs 1, vs 2, vs 3, v] 22 (0, 0))) (.slice (some ⟨w.heap.size, 0, none⟩) 5 5) [Hs 0, Hs 1, Hs 2, Hs 3, L] := by
  obtain ⟨h1, h2, h3⟩ := h
  have hbl := below_alloc w (.cells #[vs 0, vs 1, vs 2, vs 3, v] 22 (0, 0))
  refine ⟨_, 5, rfl, Nat.le_refl _, by unfold maxLen; omega, fun _ => ⟨w.heap.size, 0, rfl, by simp, fun i hi => ?_⟩⟩
  match i, hi with
  | 0, _ => exact ⟨_, by rw [World.cell?_alloc_mark]; rfl, (own_eds (h2 0 (by omega))).below hbl, (h2 0 (by omega)).notNil⟩
  | 1, _ => exact ⟨_, by rw [World.cell?_alloc_mark]; rfl, (own_eds (h2 1 (by omega))).below hbl, (h2 1 (by omega)).notNil⟩
  | 2, _ => exact ⟨_, by rw [World.cell?_alloc_mark]; rfl, (own_eds (h2 2 (by omega))).below hbl, (h2 2 (by omega)).notNil⟩
  | 3, _ => exact ⟨_, by rw [World.cell?_alloc_mark]; rfl, (own_eds (h2 3 (by omega))).below hbl, (h2 3 (by omega)).notNil⟩
  | 4, _ => exact ⟨_, by rw [World.cell?_alloc_mark]; rfl, hv.below hbl, hN⟩
/-- What has been dealt out. -/
def Dealt (Hs : Nat → List Ed) (L : List Ed) (j : Nat) : Prop := (∀ q, q < 4 → (Hs q).length ≤ L.length - j) ∧ ∀ x, (∃ q, q < 4 ∧ x ∈ Hs q) → x ∈ L
theorem dealt_start (L : List Ed) : Dealt (fun _ => []) L L.length := ⟨fun q _ => by simp, fun x ⟨q, _, h⟩ => by cases h⟩
theorem Dealt.step {Hs : Nat → List Ed} {L : List Ed} {j k : Nat} (h : Dealt Hs L (j + 1)) (hj : j < L.length) : Dealt (upd Hs k (Hs k ++ [L.getD j ed0])) L j := by
  refine ⟨fun q hq => ?_, fun x ⟨q, hq, hx⟩ => ?_⟩
  · have := h.1 q hq
    unfold upd
    split
    · rename_i e
      subst e
      simp
      omega
    · omega
  · unfold upd at hx
    split at hx
    · rename_i e
      subst e
      rcases List.mem_append.1 hx with hx | hx
      · exact h.2 x ⟨q, hq, hx⟩
      · rw [List.mem_singleton] at hx
        subst hx
        simp [List.getD, hj]
    · exact h.2 x ⟨q, hq, hx⟩
theorem mayK_max {L : List Ed} {z z' : Int} (hz : z ≤ z') : ∀ {k : Nat}, mayK L z k = true → mayK L z' k = true
  | 0, _ => rfl
  | k + 1, h => by
    rw [mayK, Bool.and_eq_true, Bool.and_eq_true] at h ⊢
    refine ⟨⟨mayK_max hz h.1.1, ?_⟩, h.2⟩
    have := okE_iff.1 h.1.2
    exact okE_iff.2 ⟨this.1, this.2.1, by omega, by omega⟩
theorem hands_once {Hs : Nat → List Ed} {L : List Ed} {z : Int} {j : Nat} (h : Dealt Hs L j) (hm : mayB L z = true) : once [Hs 0, Hs 1, Hs 2, Hs 3, L].flatten = L := by
  refine once_of (fun x => ?_) (may_up hm)
  simp only [List.flatten_cons, List.flatten_nil, List.append_nil, List.mem_append]
  constructor
  · rintro (hx | hx | hx | hx | hx)
    · exact h.2 x ⟨0, by omega, hx⟩
    · exact h.2 x ⟨1, by omega, hx⟩
    · exact h.2 x ⟨2, by omega, hx⟩
    · exact h.2 x ⟨3, by omega, hx⟩
    · exact hx
  · intro hx
    exact .inr (.inr (.inr (.inr hx)))
end Go.Proofs.Ytpjpghigilbfaaa

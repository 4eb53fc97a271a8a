/-
  Scopes beside a law's own blocks.
-/
import Derived.Test.YtlmfoieolomcfaaSpAny
namespace Go.Proofs.Ytlmfoieolomcfaa
open Go.RowKit Go.Maps Go.Lib Go.WideMaps
set_option linter.unusedSimpArgs false
set_option linter.unusedVariables false
/-- From w0 on: what was there stays; the blocks of M are the law's own; the scopes lie at g, apart. -/
def LS (w0 w : World) (g : Nat) (M : List Nat) (es : List En) (bs : List Nat) (q : Nat) : Prop :=
  Below w0.heap.size w0 w ∧ (∀ k ∈ M, k < w.heap.size) ∧ ∃ S, ScQ w g S es bs q ∧ ∀ x, S x → w0.heap.size ≤ x ∧ x ∉ M
/-- The blocks of M stay. -/
def SameM (M : List Nat) (w w' : World) : Prop := w.heap.size ≤ w'.heap.size ∧ ∀ k ∈ M, w'.heap[k]? = w.heap[k]?
section
variable {w0 w w' : World} {g : Nat} {M : List Nat} {es es' : List En} {bs bs' : List Nat} {q q' : Nat}
theorem LS.below (h : LS w0 w g M es bs q) (hb : Below w.heap.size w w') : LS w0 w' g M es bs q ∧ SameM M w w' := by
  obtain ⟨h1, h2, S, h3, h4⟩ := h
  exact ⟨⟨h1.trans (hb.mono h1.size), fun k hk => Nat.lt_of_lt_of_le (h2 k hk) hb.size, S, h3.below hb, h4⟩, hb.size, fun k hk => hb.block k (h2 k hk)⟩
theorem ResS.ls {S : Nat → Prop} (h1 : Below w0.heap.size w0 w) (h2 : ∀ k ∈ M, k < w.heap.size) (h4 : ∀ x, S x → w0.heap.size ≤ x ∧ x ∉ M) (h : ResS w g S es' bs' q' w') : LS w0 w' g M es' bs' q' ∧ SameM M w w' := by
  obtain ⟨S', k1, k2, k3⟩ := h
  refine ⟨⟨⟨k3.os.trans h1.os, k3.tape.trans h1.tape, k3.output.trans h1.output, Nat.le_trans h1.size k3.size, fun k hk => (k3.block k (Nat.lt_of_lt_of_le hk h1.size) (fun hx => by have := (h4 k hx).1; omega)).trans (h1.block k hk)⟩, fun k hk => Nat.lt_of_lt_of_le (h2 k hk) k3.size, S', k1, fun x hx => ?_⟩, k3.size, fun k hk => k3.block k (h2 k hk) (fun hx => (h4 k hx).2 hk)⟩
  rcases k2 x hx with h5 | h5
  · exact h4 x h5
  · exact ⟨Nat.le_trans h1.size h5, fun hm => by have := h2 x hm; omega⟩
theorem lsAdd (h : LS w0 w g M es bs q) (hq : q ≤ 900) (s : ByteArray) (hs : s.size ≤ 1000) (f t k : Int) :
    Calls Try.prog 12 #[.pointer (some ⟨g, 0, none⟩), .string s, .agg #[.int .i64 f, .int .i64 t, .int .i64 k]] w fun e w' => if plc s es < beg bs then e = .returned (.bool true) ∧ LS w0 w' g M (es ++ [⟨s, f, t, k, plc s es⟩]) bs (q + 2) ∧ SameM M w w' else e = .returned (.bool false) ∧ LS w0 w' g M es bs q ∧ SameM M w w' := by
  obtain ⟨h1, h2, S, h3, h4⟩ := h
  refine (add_any h3 hq s hs f t k).mono ?_
  intro e w' hr
  split at hr
  · rename_i hl
    simp only [hl, if_true]
    exact ⟨hr.1, hr.2.ls h1 h2 h4⟩
  · rename_i hl
    simp only [hl, if_false]
    exact ⟨hr.1, hr.2.ls h1 h2 h4⟩
theorem lsPush (h : LS w0 w g M es bs q) (hq : q ≤ 900) : Calls Try.prog 10 #[.pointer (some ⟨g, 0, none⟩)] w fun e w' => e = .returned (.tuple #[]) ∧ LS w0 w' g M es (bs ++ [es.length]) (q + 1) ∧ SameM M w w' := by
  obtain ⟨h1, h2, S, h3, h4⟩ := h
  refine (push_any h3 hq).mono ?_
  rintro e w' ⟨rfl, hr⟩
  exact ⟨rfl, hr.ls h1 h2 h4⟩
theorem lsPop {b0 : Nat} (h : LS w0 w g M es (bs ++ [b0]) q) (hq : q ≤ 900) : Calls Try.prog 11 #[.pointer (some ⟨g, 0, none⟩)] w fun e w' => e = .returned (.bool true) ∧ LS w0 w' g M (es.take b0) bs q ∧ SameM M w w' := by
  obtain ⟨h1, h2, S, h3, h4⟩ := h
  refine (pop_last h3 hq).mono ?_
  rintro e w' ⟨rfl, hr⟩
  exact ⟨rfl, hr.ls h1 h2 h4⟩
theorem lsPop0 (h : LS w0 w g M es [] q) (hq : q ≤ 900) : Calls Try.prog 11 #[.pointer (some ⟨g, 0, none⟩)] w fun e w' => e = .returned (.bool false) ∧ w' = w := by
  obtain ⟨h1, h2, S, h3, h4⟩ := h
  exact pop_only h3 hq
theorem lsDeep (h : LS w0 w g M es bs q) (hq : q ≤ 900) : Calls Try.prog 15 #[.pointer (some ⟨g, 0, none⟩)] w fun e w' => e = .returned (.int .i64 (bs.length + 1)) ∧ w' = w := by
  obtain ⟨h1, h2, S, h3, h4⟩ := h
  exact deepQ_any h3 hq
theorem lsFind (h : LS w0 w g M es bs q) (s : ByteArray) (hs : s.size ≤ 1000) (hq : q ≤ 900) : Calls Try.prog 13 #[.pointer (some ⟨g, 0, none⟩), .string s] w fun e w' => e = .returned (fndV (fnd s es 0)) ∧ LS w0 w' g M es bs q ∧ SameM M w w' := by
  have h' := h
  obtain ⟨h1, h2, S, h3, h4⟩ := h
  refine (findQ_any h3 s hs hq).mono ?_
  rintro e w' ⟨rfl, hb⟩
  exact ⟨rfl, h'.below hb⟩
theorem lsHere (h : LS w0 w g M es bs q) (s : ByteArray) (hs : s.size ≤ 1000) (hq : q ≤ 900) : Calls Try.prog 14 #[.pointer (some ⟨g, 0, none⟩), .string s] w fun e w' => e = .returned (fndV (fnd s es (beg bs))) ∧ LS w0 w' g M es bs q ∧ SameM M w w' := by
  have h' := h
  obtain ⟨h1, h2, S, h3, h4⟩ := h
  refine (hereQ_any h3 s hs hq).mono ?_
  rintro e w' ⟨rfl, hb⟩
  exact ⟨rfl, h'.below hb⟩
/-- New, from w on. -/
theorem lsNew (w : World) : Calls Try.prog 8 #[] w fun e w' => e = .returned (.pointer (some ⟨w.heap.size, 0, none⟩)) ∧ LS w w' w.heap.size [] [] [] 0 ∧ Below w.heap.size w w' := by
  refine (new_any w).mono ?_
  rintro e w' ⟨rfl, h1, h2⟩
  exact ⟨rfl, ⟨h2, fun k hk => (by cases hk), _, h1, fun x hx => ⟨Nat.le_of_eq hx.symm, by simp⟩⟩, h2⟩
/-- A block more of the law's own. -/
theorem LS.more (h : LS w0 w g M es bs q) (o : Obj) : LS w0 (w.alloc o) g (w.heap.size :: M) es bs q ∧ SameM M w (w.alloc o) := by
  have hb := below_alloc w o
  have h5 := (h.below hb).2
  obtain ⟨h1, h2, S, h3, h4⟩ := h
  refine ⟨⟨h1.trans (hb.mono h1.size), fun k hk => ?_, S, h3.below hb, fun x hx => ⟨(h4 x hx).1, fun hm => ?_⟩⟩, h5⟩
  · rcases List.mem_cons.1 hk with e | e
    · subst e; simp
    · exact Nat.lt_of_lt_of_le (h2 k e) hb.size
  · have h6 := h3.lt x hx
    rcases List.mem_cons.1 hm with e | e
    · omega
    · exact (h4 x hx).2 e
/-- The law writes a block of its own. -/
theorem LS.set (h : LS w0 w g M es bs q) {b : Nat} (hb : b ∈ M) (hw : w0.heap.size ≤ b) (o : Nat) (v : Value) : LS w0 (w.setCell ⟨b, o, none⟩ v) g M es bs q := by
  obtain ⟨h1, h2, S, h3, h4⟩ := h
  exact ⟨h1.setCell (p := ⟨b, o, none⟩) hw v, fun k hk => by simpa using h2 k hk, S, h3.keep (by simp) (fun k hk => Below.heap_setCell _ _ _ k (fun e => by
    dsimp only at e
    subst e
    exact (h4 _ hk).2 hb)), h4⟩
theorem LS.drewN (h : LS w0 w g M es bs q) (n : Nat) : LS w0 (w.drewN n) g M es bs q := (h.below (below_drewN (Below.refl _ _) n)).1
end
theorem SameM.d {M : List Nat} {w w' : World} {b : Nat} {f t k : Int} (h : SameM M w w') (hb : b ∈ M) (hd : DBlk w b f t k) : DBlk w' b f t k := by
  unfold DBlk at hd ⊢
  rw [h.2 b hb]
  exact hd
theorem SameM.trans {M : List Nat} {a b c : World} (h : SameM M a b) (k : SameM M b c) : SameM M a c := ⟨Nat.le_trans h.1 k.1, fun x hx => (k.2 x hx).trans (h.2 x hx)⟩
end Go.Proofs.Ytlmfoieolomcfaa

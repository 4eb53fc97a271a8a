/-
  A queue and a slice of edits side by side (the law MergeQueue's two).
-/
import Derived.Test.YtpjpghigilbfaaaMgBegun
import Derived.Test.YtpjpghigilbfaaaMgSorted
namespace Go.Proofs.Ytpjpghigilbfaaa
open Go.RowKit Go.Lib Go.Sort
set_option linter.unusedSimpArgs false
set_option linter.unusedVariables false
/-- Block b holds a queue of the edits T; the slice v holds the edits L, apart from it. -/
def QI (w : World) (b : Nat) (v : Value) (L T : List Ed) : Prop :=
  ∃ vq H, Que w b vq H ∧ H.Perm T ∧ Eds w v L ∧ (∀ c, v = .slice none 0 c → c = 0) ∧ ∀ x n c, v = .slice (some x) n c → x.block < w.heap.size ∧ x.block ≠ b ∧ vq.ownBlock ≠ some x.block
theorem Eds.same {w w' : World} {v : Value} {L : List Ed} (h : Eds w v L) (hs : w.heap.size ≤ w'.heap.size) (hx : ∀ x n c, v = .slice (some x) n c → w'.heap[x.block]? = w.heap[x.block]?) : Eds w' v L := by
  obtain ⟨a, c, h1, h2, h3, h4⟩ := h
  refine ⟨a, c, h1, h2, h3, fun h0 => ?_⟩
  obtain ⟨g, off, rfl, hg, hc⟩ := h4 h0
  have hbl := hx _ _ _ h1
  dsimp only at hbl
  have hcell : ∀ o, w'.cell? ⟨g, o, none⟩ = w.cell? ⟨g, o, none⟩ := fun o => by unfold World.cell?; rw [hbl]
  exact ⟨g, off, rfl, Nat.lt_of_lt_of_le hg hs, fun i hi => by
    obtain ⟨k0, k1, k2⟩ := hc i hi
    exact ⟨by rw [hcell]; exact k0, by rw [hcell]; exact k1, by rw [hcell]; exact k2⟩⟩
theorem QI.below {w w' : World} {b : Nat} {v : Value} {L T : List Ed} (h : QI w b v L T) (hb : Below w.heap.size w w') : QI w' b v L T := by
  obtain ⟨vq, H, h1, h2, h3, h4, h5⟩ := h
  exact ⟨vq, H, h1.below hb, h2, h3.below hb, h4, fun x n c hv => ⟨Nat.lt_of_lt_of_le (h5 x n c hv).1 hb.size, (h5 x n c hv).2⟩⟩
theorem QI.lt {w : World} {b : Nat} {v : Value} {L T : List Ed} (h : QI w b v L T) : b < w.heap.size := by
  obtain ⟨vq, H, h1, _⟩ := h
  exact h1.1.lt
/-- Another slice, of a later block. -/
theorem QI.put {w w' : World} {b : Nat} {v u : Value} {L T M : List Ed} (h : QI w b v L T) (hb : Below w.heap.size w w') (ho : OwnE w' w.heap.size u M) : QI w' b u M T := by
  obtain ⟨vq, H, h1, h2, h3, h4, h5⟩ := h
  refine ⟨vq, H, h1.below hb, h2, own_eds ho, ho.notNil, fun x n c hv => ?_⟩
  subst hv
  have hk := World.ownsRow.lt ho x.block rfl
  have hbl := h1.1.lt
  refine ⟨hk.2, by omega, fun e => ?_⟩
  have := (World.ownsRow.lt h1.2.1 _ e).2
  omega
theorem QI.new (w : World) : QI (w.alloc (.cells #[.slice none 0 0] 27 (0, 0))) w.heap.size (.slice none 0 0) [] [] :=
  ⟨_, [], que_new w, List.Perm.refl _, ⟨none, 0, rfl, Nat.le_refl _, Nat.zero_le _, fun h => by simp at h⟩, fun c h => by injection h with _ _ h; exact h.symm, fun x n c h => by injection h with h; cases h⟩
theorem qiAdd_any (b : Nat) (v : Value) (L T : List Ed) (e : Ed) (w0 w : World) (h0 : QI w0 b v L T) (hw : Below w0.heap.size w0 w) (hl : T.length ≤ 900) :
    Calls Try.prog 9 #[.pointer (some ⟨b, 0, none⟩), .agg #[.int .i64 e.p, .int .i64 e.n, .string e.s]] w fun x w' => x = .returned (.tuple #[]) ∧ QI w' b v L (e :: T) ∧ Below b w w' ∧ ∀ k, w0.heap.size ≤ k → k < w.heap.size → w'.heap[k]? = w.heap[k]? := by
  obtain ⟨vq, H, h01, h2, h03, h4, h05⟩ := h0
  have h1 := h01.below hw
  have h3 := h03.below hw
  have h5 : ∀ x n c, v = .slice (some x) n c → x.block < w.heap.size ∧ x.block ≠ b ∧ vq.ownBlock ≠ some x.block := fun x n c hv => ⟨Nat.lt_of_lt_of_le (h05 x n c hv).1 hw.size, (h05 x n c hv).2⟩
  refine (qAdd_any b vq H e w h1 (by rw [h2.length_eq]; exact hl)).mono ?_
  rintro x w' ⟨rfl, v', H', k1, k2, k3, k4⟩
  refine ⟨rfl, ⟨v', H', k1, k2.trans (h2.cons e), h3.same k3.size (fun x n c hv => k3.block _ (h5 x n c hv).1 (h5 x n c hv).2.1 (fun e => (h5 x n c hv).2.2 e.symm)), h4, fun x n c hv => ?_⟩, k3.below (Nat.le_refl b) (fun k hk => Nat.le_of_succ_le (h1.own_ge k hk)) (Nat.le_of_lt h1.1.lt), fun k hk0 hk => k3.block k hk (fun e => by have := h01.1.lt; omega) (fun e => by have := (World.ownsRow.lt h01.2.1 k e.symm).2; omega)⟩
  obtain ⟨m1, m2, m3⟩ := h5 x n c hv
  refine ⟨Nat.lt_of_lt_of_le m1 k3.size, m2, ?_⟩
  rcases k4 with k4 | k4
  · rw [k4]; exact m3
  · intro e
    have := k4 _ e
    omega
theorem qiNext_any (b : Nat) (v : Value) (L T : List Ed) (e : Ed) (w : World) (h : QI w b v L (e :: T)) (hs : Srt (e :: T)) (hl : T.length ≤ 900) :
    Calls Try.prog 11 #[.pointer (some ⟨b, 0, none⟩)] w fun x w' => x = .returned (.tuple #[.agg #[.int .i64 e.p, .int .i64 e.n, .string e.s], .bool true]) ∧ QI w' b v L T ∧ Below b w w' := by
  obtain ⟨vq, H, h1, h2, h3, h4, h5⟩ := h
  have hlen : H.length = T.length + 1 := by rw [h2.length_eq]; rfl
  obtain ⟨T', hT'⟩ := heap_first h1.2.2 h2 hs (by omega)
  have he : at0 H 0 = e := (List.cons.inj hT').1.symm
  have := qNext_any b T.length vq H w h1 hlen hl
  rw [he] at this
  refine this.mono ?_
  rintro x w' ⟨rfl, v', H', k1, k2, k3, k4⟩
  refine ⟨rfl, ⟨v', H', k1, (k2.trans h2).cons_inv, h3.same k3.size (fun x n c hv => k3.block _ (h5 x n c hv).1 (h5 x n c hv).2.1 (fun e => (h5 x n c hv).2.2 e.symm)), h4, fun x n c hv => ?_⟩, k3.below (Nat.le_refl b) (fun k hk => Nat.le_of_succ_le (h1.own_ge k hk)) (Nat.le_of_lt h1.1.lt)⟩
  obtain ⟨m1, m2, m3⟩ := h5 x n c hv
  exact ⟨Nat.lt_of_lt_of_le m1 k3.size, m2, by rw [k4]; exact m3⟩
theorem qiNext_none (b : Nat) (v : Value) (L : List Ed) (w : World) (h : QI w b v L []) :
    Calls Try.prog 11 #[.pointer (some ⟨b, 0, none⟩)] w fun x w' => x = .returned (.tuple #[.agg #[.int .i64 0, .int .i64 0, .string ⟨#[]⟩], .bool false]) ∧ QI w' b v L [] ∧ Below w.heap.size w w' := by
  have hh := h
  obtain ⟨vq, H, h1, h2, h3, h4, h5⟩ := h
  obtain rfl := List.perm_nil.1 h2
  refine (qNext_none b vq w h1).mono ?_
  rintro x w' ⟨rfl, hb, _⟩
  exact ⟨rfl, hh.below hb, hb⟩
theorem qiLen_any (b : Nat) (v : Value) (L T : List Ed) (w : World) (h : QI w b v L T) : Calls Try.prog 13 #[.pointer (some ⟨b, 0, none⟩)] w fun e w' => e = .returned (.int .i64 T.length) ∧ w' = w := by
  obtain ⟨vq, H, h1, h2, _⟩ := h
  rw [← h2.length_eq]
  exact qLen_any b vq H w h1
theorem QI.shape {w : World} {b : Nat} {v : Value} {L T : List Ed} (h : QI w b v L T) : ∃ a c, v = .slice a L.length c ∧ L.length ≤ c ∧ c ≤ maxLen := by
  obtain ⟨vq, H, h1, h2, ⟨a, c, h3, h4, h5, _⟩, _⟩ := h
  exact ⟨a, c, h3, h4, h5⟩
theorem QI.eds {w : World} {b : Nat} {v : Value} {L T : List Ed} (h : QI w b v L T) : Eds w v L := by
  obtain ⟨vq, H, h1, h2, h3, _⟩ := h
  exact h3
theorem QI.notNil {w : World} {b : Nat} {v : Value} {L T : List Ed} (h : QI w b v L T) : ∀ c, v = .slice none 0 c → c = 0 := by
  obtain ⟨vq, H, h1, h2, h3, h4, _⟩ := h
  exact h4
theorem QI.perm {w : World} {b : Nat} {v : Value} {L T T' : List Ed} (h : QI w b v L T) (hp : T.Perm T') : QI w b v L T' := by
  obtain ⟨vq, H, h1, h2, h3⟩ := h
  exact ⟨vq, H, h1, h2.trans hp, h3⟩
/-- The slice's first edit, and what is behind it. -/
theorem QI.cons {w : World} {b : Nat} {v : Value} {e : Ed} {L T : List Ed} (h : QI w b v (e :: L) T) : ∃ g off c, v = .slice (some ⟨g, off, none⟩) (L.length + 1) c ∧ L.length + 1 ≤ c ∧ c ≤ maxLen ∧ g < w.heap.size ∧ g ≠ b ∧ EdAt w g off e ∧ Eds w (.slice (some ⟨g, off, none⟩) 1 c) [e] ∧
    (∀ o', (o' = off + 3 ∨ c = 1) → QI w b (.slice (some ⟨g, o', none⟩) L.length (c - 1)) L T) := by
  obtain ⟨vq, H, h1, h2, h3, h4, h5⟩ := h
  obtain ⟨a, c, rfl, k2, k3, k4⟩ := h3
  obtain ⟨g, off, rfl, hg, hc⟩ := k4 (by simp)
  obtain ⟨m1, m2, m3⟩ := h5 _ _ _ rfl
  have h0 := hc 0 (by simp)
  simp only [Nat.zero_mul, Nat.add_zero, List.getD_cons_zero] at h0
  refine ⟨g, off, c, rfl, by simpa using k2, k3, hg, m2, h0, ⟨some ⟨g, off, none⟩, c, rfl, by simp at k2 ⊢; omega, k3, fun _ => ⟨g, off, rfl, hg, fun i hi => ?_⟩⟩, fun o' ho' => ⟨vq, H, h1, h2, ⟨some ⟨g, o', none⟩, c - 1, rfl, by simp at k2; omega, by omega, fun hp => ⟨g, o', rfl, hg, fun i hi => ?_⟩⟩, fun c h => (by injection h with h; cases h), fun x n c' hv => ?_⟩⟩
  · obtain rfl : i = 0 := by simp at hi; omega
    simpa using h0
  · have := hc (i + 1) (by simp; omega)
    simp only [List.getD_cons_succ] at this
    rcases ho' with rfl | hc1
    · rw [show off + 3 + i * 3 = off + (i + 1) * 3 by omega]
      exact this
    · simp at k2
      omega
  · injection hv with hv
    injection hv with hv
    subst hv
    exact ⟨m1, m2, m3⟩
end Go.Proofs.Ytpjpghigilbfaaa

/-
  The program's Queue: Push, Pop, Add, Next, Len.
-/
import Derived.Test.YtpjpghigilbfaaaHpDown
import Derived.Test.YtpjpghigilbfaaaEdPut
import Derived.Deep.AppendLies
namespace Go.Proofs.Ytpjpghigilbfaaa
open Go.RowKit Go.Lib Go.Sort
set_option linter.unusedSimpArgs false
set_option linter.unusedVariables false
/-- Block b holds a queue whose pile is this heap, in a row of the calls' own behind it. -/
def Que (w : World) (b : Nat) (v : Value) (H : List Ed) : Prop := PileAt w b v ∧ OwnE w (b + 1) v H ∧ Heap H H.length
/-- What else stood there stands there. -/
structure Kept (w w' : World) (b : Nat) (r : Option Nat) : Prop where
  os : w'.os = w.os
  tape : w'.tape = w.tape
  output : w'.output = w.output
  size : w.heap.size ≤ w'.heap.size
  block : ∀ k, k < w.heap.size → k ≠ b → some k ≠ r → w'.heap[k]? = w.heap[k]?
theorem kept_of {w w' : World} {b : Nat} {r : Option Nat} (h : w.grownBy w' r) : Kept w w' b r := ⟨h.os, h.tape, h.output, h.size, fun k hk _ hr => h.block k hk hr⟩
theorem ass_ed (vs : Array Value) (W : World) : (Instr.typeAssert (.iface 29 (.agg vs)) 20 29 false).run Try.prog W = .ok (.agg vs) W := by kernel_rfl
theorem pile_own {w : World} {b : Nat} {v : Value} {base : Nat} {u : Value} {L : List Ed} (hp : PileAt w b v) (ho : OwnE w base u L) : u.ownBlock ≠ some b := by
  rcases ho.forms with ⟨rfl, _⟩ | ⟨g, cap, rfl, _, cur, hg, _⟩
  · simp [Value.ownBlock]
  · intro h
    obtain rfl : g = b := by simpa [Value.ownBlock] using h
    rw [hp] at hg
    simp only [Option.some.injEq, Obj.cells.injEq] at hg
    exact absurd hg.2.1 (by decide)
theorem PileAt.kept0 {w w' : World} {b : Nat} {v : Value} {r : Option Nat} (h : PileAt w b v) (hg : w.grownBy w' r) (hne : r ≠ some b) : PileAt w' b v := by
  unfold PileAt
  rw [hg.block b h.lt (fun e => hne e.symm)]
  exact h
theorem grown_alloc (w : World) (o : Obj) (r : Option Nat) : w.grownBy (w.alloc o) r := ⟨rfl, rfl, rfl, by simp, fun k hk _ => Below.heap_alloc _ _ _ hk⟩
theorem RowE.other {w : World} {g cap b : Nat} {L : List Ed} (h : RowE w g cap L) (hne : g ≠ b) (v : Value) : RowE (w.setCell ⟨b, 0, none⟩ v) g cap L := by
  obtain ⟨cur, hg, h1⟩ := h
  exact ⟨cur, by rw [Below.heap_setCell _ _ _ g hne]; exact hg, h1⟩
theorem Kept.of2 {w w1 w2 : World} {b : Nat} {r : Option Nat} (h : w.grownBy w1 none) (k : w1.grownBy w2 r) : Kept w w2 b r :=
  ⟨k.os.trans h.os, k.tape.trans h.tape, k.output.trans h.output, Nat.le_trans h.size k.size, fun i hi _ hr => (k.block i (Nat.lt_of_lt_of_le hi h.size) hr).trans (h.block i hi (by simp))⟩
theorem Kept.set {w w1 : World} {b : Nat} {r : Option Nat} (h : Kept w w1 b r) (o : Nat) (v : Value) : Kept w (w1.setCell ⟨b, o, none⟩ v) b r :=
  ⟨h.os, h.tape, h.output, by simpa using h.size, fun k hk hb hr => by rw [Below.heap_setCell _ _ _ k hb]; exact h.block k hk hb hr⟩
set_option maxHeartbeats 2000000 in
set_option maxRecDepth 100000 in
theorem push_any (b : Nat) (v : Value) (H : List Ed) (e : Ed) (w : World) (h : Que w b v H) (hl : H.length ≤ 900) :
    Calls Try.prog 74 #[.pointer (some ⟨b, 0, none⟩), .iface 29 (.agg #[.int .i64 e.p, .int .i64 e.n, .string e.s])] w fun x w' => x = .returned (.tuple #[]) ∧ ∃ g cap, PileAt w' b (.slice (some ⟨g, 0, none⟩) (H.length + 1) cap) ∧ RowE w' g cap (H ++ [e]) ∧ b < g ∧ Kept w w' b v.ownBlock ∧ (v.ownBlock = some g ∨ w.heap.size ≤ g) := by
  obtain ⟨hp, ho, hh⟩ := h
  obtain ⟨a, n, c, rfl⟩ : ∃ a n c, v = .slice a n c := by
    rcases ho.forms with ⟨rfl, _⟩ | ⟨g, cap, rfl, _⟩ <;> exact ⟨_, _, _, rfl⟩
  go_enter Try.func74, Try.ntmps74
  go_wp2
  refine wp_region_D (fun w' => PileAt w' b (.slice a n c)) (fun j => [9].contains j) (by kernel_rfl) ?_
  have hS : PileAt w.drew b (.slice a n c) := hp
  replace ho : OwnE w.drew (b + 1) (.slice a n c) H := ho
  have hk0 : w.grownBy w.drew none := ⟨rfl, rfl, rfl, Nat.le_refl _, fun _ _ _ => rfl⟩
  clear hp
  generalize World.drew w = W at ho hS hk0 ⊢
  refine wpAnyD_takeC (i := 0) (v := .pointer (some ⟨b, 0, none⟩)) [9] (fun _ => rfl) rfl (by kernel_rfl) 2 (by kernel_rfl) rfl (by kernel_rfl) (by kernel_rfl) (by kernel_rfl) (fun _ _ _ h => h) (Or.inl ⟨by kernel_rfl, ?_⟩) hS ?_
  · intro w hSw; go_simp
  try simp only [List.getElem_toArray, List.getElem_cons_succ, List.getElem_cons_zero, Act.put, List.setIfInBounds_toArray, List.set_cons_zero, List.set_cons_succ]
  refine wpAnyD_takeC (i := 1) (v := .pointer (some ⟨b, 0, none⟩)) [9] (fun _ => rfl) rfl (by kernel_rfl) 2 (by kernel_rfl) rfl (by kernel_rfl) (by kernel_rfl) (by kernel_rfl) (fun _ _ _ h => h) (Or.inl ⟨by kernel_rfl, ?_⟩) hS ?_
  · intro w hSw; go_simp
  try simp only [List.getElem_toArray, List.getElem_cons_succ, List.getElem_cons_zero, Act.put, List.setIfInBounds_toArray, List.set_cons_zero, List.set_cons_succ]
  refine wpAnyD_takeC (i := 2) (v := .pointer (some ⟨b, 0, none⟩)) [9] (fun _ => rfl) rfl (by kernel_rfl) 2 (by kernel_rfl) rfl (by kernel_rfl) (by kernel_rfl) (by kernel_rfl) (fun _ _ _ h => h) (Or.inl ⟨by kernel_rfl, ?_⟩) hS ?_
  · intro w hSw; go_simp
  try simp only [List.getElem_toArray, List.getElem_cons_succ, List.getElem_cons_zero, Act.put, List.setIfInBounds_toArray, List.set_cons_zero, List.set_cons_succ]
  refine wpAnyD_takeC (i := 3) (v := .slice a n c) [9] (fun _ => rfl) rfl (by kernel_rfl) 2 (by kernel_rfl) rfl (by kernel_rfl) (by kernel_rfl) (by kernel_rfl) (fun _ _ _ h => h) (Or.inl ⟨by kernel_rfl, ?_⟩) hS ?_
  · intro w hSw; have hc := PileAt.cell hSw; go_simp
  try simp only [List.getElem_toArray, List.getElem_cons_succ, List.getElem_cons_zero, Act.put, List.setIfInBounds_toArray, List.set_cons_zero, List.set_cons_succ]
  refine wpAnyD_takeC (i := 4) (v := .iface 29 (.agg #[.int .i64 e.p, .int .i64 e.n, .string e.s])) [9] (fun _ => rfl) rfl (by kernel_rfl) 2 (by kernel_rfl) rfl (by kernel_rfl) (by kernel_rfl) (by kernel_rfl) (fun _ _ _ h => h) (Or.inl ⟨by kernel_rfl, ?_⟩) hS ?_
  · intro w hSw; go_simp
  try simp only [List.getElem_toArray, List.getElem_cons_succ, List.getElem_cons_zero, Act.put, List.setIfInBounds_toArray, List.set_cons_zero, List.set_cons_succ]
  refine wpAnyD_takeC (i := 5) (v := .agg #[.int .i64 e.p, .int .i64 e.n, .string e.s]) [9] (fun _ => rfl) rfl (by kernel_rfl) 2 (by kernel_rfl) rfl (by kernel_rfl) (by kernel_rfl) (by kernel_rfl) (fun _ _ _ h => h) (Or.inl ⟨by kernel_rfl, ?_⟩) hS ?_
  · intro w hSw; have ha := ass_ed; go_simp
  try simp only [List.getElem_toArray, List.getElem_cons_succ, List.getElem_cons_zero, Act.put, List.setIfInBounds_toArray, List.set_cons_zero, List.set_cons_succ]
  refine wpAnyD_one (i := 6) rfl (by kernel_rfl) (fun K hK => ?_)
  replace hK := hide hK
  go_simp
  have hS1 : PileAt (W.alloc (.cells #[.int .i64 e.p, .int .i64 e.n, .string e.s] 29 (0, 0))) b (.slice a n c) := hS.kept0 (grown_alloc W _ none) (by simp)
  have ho1 : OwnE (W.alloc (.cells #[.int .i64 e.p, .int .i64 e.n, .string e.s] 29 (0, 0))) (b + 1) (.slice a n c) H := World.ownsRow.alloc ho _
  have hk1 : w.grownBy (W.alloc (.cells #[.int .i64 e.p, .int .i64 e.n, .string e.s] 29 (0, 0))) none := hk0.trans1 (grown_alloc W _ none)
  have hn1 := new_ed W e (0, 0)
  have hWw : w.heap.size ≤ W.heap.size := hk0.size
  have hbl : b + 1 ≤ W.heap.size := hS.lt
  have hs1 : (W.alloc (.cells #[.int .i64 e.p, .int .i64 e.n, .string e.s] 29 (0, 0))).heap.size = W.heap.size + 1 := by simp
  refine unhide hK _ _ (fun _ => hS1) ?_
  clear hK K hS ho hk0
  generalize W.alloc (.cells #[.int .i64 e.p, .int .i64 e.n, .string e.s] 29 (0, 0)) = W1 at *
  generalize W.heap.size = z at *
  try simp only [List.getElem_toArray, List.getElem_cons_succ, List.getElem_cons_zero, Act.put, List.setIfInBounds_toArray, List.set_cons_zero, List.set_cons_succ]
  refine wpAnyD_one (i := 7) rfl (by kernel_rfl) (fun K hK => ?_)
  replace hK := hide hK
  rw [if_pos (by kernel_rfl)]
  obtain ⟨i0, hi, hz0, hz1, hz2⟩ := info_parts Try.info29
  refine wp_append_lies W1 _ _ 25 rfl (b + 1) 29 i0 _ 3 32 Try.underlying25 hi hz0 hz1 hz2 rfl (by decide) (.slice a n c) H.length (edsC H) rfl ho1 ⟨z, 0, none⟩ 1 1 e.cells rfl rfl hn1 (one_ed e) (by omega) (by unfold maxLen; omega) (by omega) (by omega) _ rfl ?_
  intro g cap W2 hown2 hg2 hat hlt2
  have hS2 : PileAt W2 b (.slice a n c) := hS1.kept0 hg2 (pile_own hS1 ho1)
  have hrow2 : RowE W2 g cap (H ++ [e]) ∧ b < g := by
    have : OwnE W2 (b + 1) (.slice (some ⟨g, 0, none⟩) (H.length + 1) cap) (H ++ [e]) := by
      unfold OwnE
      rw [edsC_snoc, List.length_append]
      exact hown2
    rcases this.forms with ⟨h0, _⟩ | ⟨g', cap', h0, h1, h2⟩
    · injection h0 with h0; cases h0
    · injection h0 with h0 _ h3
      injection h0 with h0
      injection h0 with h0
      subst h0 h3
      exact ⟨h2, h1⟩
  refine unhide hK _ _ (fun _ => hS2) ?_
  have hS := hS2
  have hf2 : W2.frozen? ⟨b, 0, none⟩ = false := Joins.unfrozen_of_block hS2 0
  have hc2 := hS2.cell
  have hfin : Hid (∃ W3, W3 = W2.setCell ⟨b, 0, none⟩ (.slice (some ⟨g, 0, none⟩) (H.length + 1) cap) ∧ PileAt W3 b (.slice (some ⟨g, 0, none⟩) (H.length + 1) cap) ∧ RowE W3 g cap (H ++ [e]) ∧ Kept w W3 b (Value.slice a n c).ownBlock) := hide ⟨_, rfl, by
      have := Joins.block_setCell (i := 0) hS2 (.slice (some ⟨g, 0, none⟩) (H.length + 1) cap)
      exact this, hrow2.1.other (by omega) _, by
      have hkk := Kept.of2 (b := b) hk1 hg2
      exact hkk.set _ _⟩
  clear hK K hown2 hS1 ho1 hn1
  try simp only [List.getElem_toArray, List.getElem_cons_succ, List.getElem_cons_zero, Act.put, List.setIfInBounds_toArray, List.set_cons_zero, List.set_cons_succ]
  refine wpAnyD_takeC (i := 8) (v := .pointer (some ⟨b, 0, none⟩)) [9] (fun _ => rfl) rfl (by kernel_rfl) 2 (by kernel_rfl) rfl (by kernel_rfl) (by kernel_rfl) (by kernel_rfl) (fun _ _ _ h => h) (Or.inl ⟨by kernel_rfl, ?_⟩) hS ?_
  · intro w hSw; go_simp
  try simp only [List.getElem_toArray, List.getElem_cons_succ, List.getElem_cons_zero, Act.put, List.setIfInBounds_toArray, List.set_cons_zero, List.set_cons_succ]
  refine wpAnyD_one (i := 9) rfl (by kernel_rfl) (fun K hK => ?_)
  replace hK := hide hK
  go_simp
  refine unhide hK _ _ (fun h => by cases h) ?_
  obtain ⟨W3, hW3, f1, f2, f3⟩ := unhide hfin
  rw [← hW3]
  clear hK K
  refine wpAnyD_done (by kernel_rfl) ?_ _
  go_wp2
  go_end0
  refine ⟨rfl, g, cap, f1, f2, hrow2.2, f3, ?_⟩
  rcases hat with h | h
  · exact .inl h
  · exact .inr (by omega)
end Go.Proofs.Ytpjpghigilbfaaa

/-
  The program's Walk with begun's function.
-/
import Derived.Test.YthnapcdanccohaaDoorNdWkW
import Derived.Test.YthnapcdanccohaaDoorNdOne
import Derived.Test.YthnapcdanccohaaDoorNdCatch
namespace Go.Proofs.YthnapcdanccohaaDoor
open Go.RowKit Go.Lib Go.Sort
set_option linter.unusedSimpArgs false
set_option linter.unusedVariables false
set_option maxHeartbeats 4000000 in
set_option maxRecDepth 100000 in
theorem walkB2_any {σ : Type} (p1 : Value) (A : Int → Bool) (R : σ → Nd → Nat → σ → Prop) (I : σ → World → Prop) (C : σ → Nat → Prop) (W0 : World) (s0 : σ) (gf : Nat)
    (hI : ∀ s w w', I s w → w.heap.size ≤ w'.heap.size → (∀ g, g < W0.heap.size ∨ C s g → w'.heap[g]? = w.heap[g]?) → I s w')
    (hC : ∀ s w g, I s w → C s g → W0.heap.size ≤ g ∧ g < w.heap.size)
    (hF : ∀ s w k t a n cap c (d : Nat), I s w → Sl w a n cap c → Below W0.heap.size W0 w → c.size ≤ 1000000 → Sl W0 a n cap c → (∃ m, Done R s0 s m ∧ m ≤ 2000002) → Calls Tryd.prog 21 #[.agg #[.int .i64 k, .int .i64 t, .slice a n cap], p1] w fun e w' => e = .returned (.bool (A k)) ∧ ∃ s', R s ⟨k, t, c⟩ d s' ∧ I s' w' ∧ Moves (C s) (C s') w w')
    (s : σ) (w : World) (k t : Int) (a : Option Addr) (n cap : Nat) (c : F) (d : Nat) (h0 : I s w ∧ Cell1 w gf 32 (.func (.func 21) #[] #[p1]) ∧ ¬ C s gf) (hc : Sl w a n cap c) (hw : Below W0.heap.size W0 w) (hN : c.size ≤ 1000000) (hc0 : Sl W0 a n cap c) (hd : ∃ m, Done R s0 s m ∧ m ≤ 2000002) :
    Calls Tryd.prog 28 #[.agg #[.int .i64 k, .int .i64 t, .slice a n cap], .int .i64 d, .pointer (some ⟨gf, 0, none⟩)] w fun e w' => e = .returned (.bool (A k)) ∧ ∃ s', R s ⟨k, t, c⟩ d s' ∧ (I s' w' ∧ Cell1 w' gf 32 (.func (.func 21) #[] #[p1]) ∧ ¬ C s' gf) ∧ Moves (fun x => C s x ∨ x = gf) (fun x => C s' x ∨ x = gf) w w' := by
  obtain ⟨h1, hf, hn⟩ := h0
  have hA := below_alloc w (.cells #[.int .i64 k, .int .i64 t, .slice a n cap] 26 (0, 0))
  have hfA := hf.alloc (.cells #[.int .i64 k, .int .i64 t, .slice a n cap] 26 (0, 0))
  have hFx := hide (hF s _ k t a n cap c d (hI s _ _ h1 hA.size (fun g hg => hA.block g (hg.elim (fun hg => by (have := hw.size; omega)) (fun hg => by exact (hC s w g h1 hg).2)))) (hc.below hA) (hw.alloc hw.size _) hN hc0 hd)
  replace hd := hide hd
  have hcf := hfA.cell
  have hcf0 := hf.cell
  have hlf := hf.lt
  obtain ⟨y0, y1, y2⟩ := boxN_new w k t a n cap
  have hAs : (w.alloc (.cells #[.int .i64 k, .int .i64 t, .slice a n cap] 26 (0, 0))).heap.size = w.heap.size + 1 := by simp
  replace hI := hide hI
  replace hC := hide hC
  replace hF := hide hF
  replace h1 := hide h1
  replace hf := hide hf
  replace hc := hide hc
  replace hc0 := hide hc0
  replace hw := hide hw
  replace hfA := hide hfA
  replace hn := hide hn
  go_enter Tryd.func28, Tryd.ntmps28
  go_wp2_with fail
  refine (unhide hFx).mono ?_
  rintro e W2 ⟨rfl, s', hR, hI2, hM2⟩
  have hfin : Hid ((I s' W2 ∧ Cell1 W2 gf 32 (.func (.func 21) #[] #[p1]) ∧ ¬ C s' gf) ∧ Moves (fun x => C s x ∨ x = gf) (fun x => C s' x ∨ x = gf) w W2) := hide (by
    refine ⟨⟨hI2, (unhide hfA).same (hM2.block gf (by omega) (unhide hn)), fun hh => ?_⟩, hM2.os.trans hA.os, hM2.tape.trans hA.tape, hM2.output.trans hA.output, Nat.le_trans hA.size hM2.size, fun g hg hcg => ?_, fun g hg => ?_⟩
    · rcases hM2.grows gf hh with h | h
      · exact unhide hn h
      · omega
    · rw [hM2.block g (by omega) (fun h => hcg (.inl h)), hA.block g hg]
    · rcases hg with hg | hg
      · rcases hM2.grows g hg with h | h
        · exact .inl (.inl h)
        · exact .inr (by omega)
      · exact .inl (.inr hg))
  clear hI2 hM2 hFx
  go_wp2
  go_ret
  exact ⟨rfl, s', hR, unhide hfin⟩
set_option maxHeartbeats 4000000 in
set_option maxRecDepth 100000 in
theorem walkB_any {σ : Type} (p1 : Value) (A : Int → Bool) (R : σ → Nd → Nat → σ → Prop) (I : σ → World → Prop) (C : σ → Nat → Prop) (W0 : World) (s0 : σ)
    (hI : ∀ s w w', I s w → w.heap.size ≤ w'.heap.size → (∀ g, g < W0.heap.size ∨ C s g → w'.heap[g]? = w.heap[g]?) → I s w')
    (hC : ∀ s w g, I s w → C s g → W0.heap.size ≤ g ∧ g < w.heap.size)
    (hF : ∀ s w k t a n cap c (d : Nat), I s w → Sl w a n cap c → Below W0.heap.size W0 w → c.size ≤ 1000000 → Sl W0 a n cap c → (∃ m, Done R s0 s m ∧ m ≤ 2000002) → Calls Tryd.prog 21 #[.agg #[.int .i64 k, .int .i64 t, .slice a n cap], p1] w fun e w' => e = .returned (.bool (A k)) ∧ ∃ s', R s ⟨k, t, c⟩ d s' ∧ I s' w' ∧ Moves (C s) (C s') w w')
    (k t : Int) (a : Option Addr) (n cap : Nat) (c : F) (w : World) (hw : Below W0.heap.size W0 w) (h0 : I s0 w) (hc : Sl W0 a n cap c) (hN : c.size ≤ 1000000) :
    Calls Tryd.prog 16 #[.agg #[.int .i64 k, .int .i64 t, .slice a n cap], .func (.func 21) #[] #[p1]] w fun e w' => e = .returned (.tuple #[]) ∧ ∃ s', RS R s0 (visN A ⟨k, t, c⟩) s' ∧ I s' w' ∧ Moves (C s0) (C s') w w' := by
  have hmf : ∀ (fn : Fn) (first cap : Array Value) (w : World), (Instr.makeFunc fn first cap).run Tryd.prog w = .ok (.func fn first cap) w := fun _ _ _ _ => rfl
  have hnil : ∀ w : World, (binOp BinOp.eql 32 (.func (.func 21) #[] #[p1]) .nilFunc).run Tryd.prog w = .ok (.bool false) w := fun _ => by kernel_rfl
  have hb1 := below_alloc w (.cells #[.int .i64 k, .int .i64 t, .slice a n cap] 26 (0, 0))
  have hb2 := below_alloc (w.alloc (.cells #[.int .i64 k, .int .i64 t, .slice a n cap] 26 (0, 0))) (.cells #[.func (.func 21) #[] #[p1]] 32 (0, 0))
  have hb := hb1.trans (hb2.mono hb1.size)
  have hfc := cell1_new (w.alloc (.cells #[.int .i64 k, .int .i64 t, .slice a n cap] 26 (0, 0))) 32 (.func (.func 21) #[] #[p1])
  rw [show (w.alloc (.cells #[.int .i64 k, .int .i64 t, .slice a n cap] 26 (0, 0))).heap.size = w.heap.size + 1 by simp] at hfc
  have hx := (boxN_new w k t a n cap).below (below_alloc _ (.cells #[.func (.func 21) #[] #[p1]] 32 (0, 0))) (by simp)
  have hW := hide (walkW_any (.pointer (some ⟨w.heap.size + 1, 0, none⟩)) A R (fun s W => I s W ∧ Cell1 W (w.heap.size + 1) 32 (.func (.func 21) #[] #[p1]) ∧ ¬ C s (w.heap.size + 1)) (fun s x => C s x ∨ x = w.heap.size + 1) W0 s0
    (fun s W W' h hs hx => ⟨hI s W W' h.1 hs (fun g hg => hx g (hg.elim (fun hg => by exact .inl hg) (fun hg => by exact .inr (.inl hg)))), h.2.1.same (hx _ (.inr (.inr rfl))), h.2.2⟩)
    (fun s W g h hg => by
      rcases hg with hg | hg
      · exact hC s W g h.1 hg
      · exact ⟨by have := hw.size; omega, by rw [hg]; exact h.2.1.lt⟩)
    (fun s W k t a n cap c d h1 h2 h3 h4 h5 h6 h7 => walkB2_any p1 A R I C W0 s0 (w.heap.size + 1) hI hC hF s W k t a n cap c d h1 h2 h4 h5 h6 h7)
    k t a n cap c _ (hw.trans (hb.mono hw.size)) ⟨hI s0 _ _ h0 hb.size (fun g hg => hb.block g (hg.elim (fun hg => by (have := hw.size; omega)) (fun hg => by exact (hC s0 w g h0 hg).2))), hfc, fun h => by have := (hC s0 w _ h0 h).2; omega⟩ hc hN)
  have hcf := hfc.cell
  obtain ⟨y0, y1, y2⟩ := hx
  replace hI := hide hI
  replace hC := hide hC
  replace hF := hide hF
  replace h0 := hide h0
  replace hc := hide hc
  replace hw := hide hw
  replace hfc := hide hfc
  replace hb := hide hb
  clear hb1 hb2
  go_enter_defers Tryd.func16, Tryd.ntmps16
  go_wp2_with fail
  refine (unhide hW).mono ?_
  rintro e W2 ⟨rfl, s', hR, ⟨hI2, _, hn2⟩, hM2⟩
  have hfin : Hid (I s' W2 ∧ Moves (C s0) (C s') w W2) := hide (by
    have hbb := unhide hb
    refine ⟨hI2, hM2.os.trans hbb.os, hM2.tape.trans hbb.tape, hM2.output.trans hbb.output, Nat.le_trans hbb.size hM2.size, fun g hg hcg => ?_, fun g hg => ?_⟩
    · rw [hM2.block g (Nat.lt_of_lt_of_le hg hbb.size) (fun h => by rcases h with h | h; exact hcg h; omega), hbb.block g hg]
    · rcases hM2.grows g (.inl hg) with h | h
      · rcases h with h | h
        · exact .inl h
        · exact .inr (by omega)
      · exact .inr (Nat.le_trans hbb.size h))
  clear hI2 hM2 hW
  go_wp2
  refine leaves_cons (f := 27) (args := #[]) (by simp) (by simp [go_sem]) ?_
  refine (catch_idle W2).mono ?_
  rintro e u' w'' ⟨rfl, rfl, rfl⟩
  exact ⟨_, results_none rfl _ _ _, rfl, s', hR, unhide hfin⟩
end Go.Proofs.YthnapcdanccohaaDoor

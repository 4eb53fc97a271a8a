/-
  The program's Find over a tree that stood in an elder world: what is found lies in that, or is new.
-/
import Derived.Test.YthnapcdanccohaaDoorNdFind
namespace Go.Proofs.YthnapcdanccohaaDoor
open Go.RowKit Go.Lib Go.Sort
set_option linter.unusedSimpArgs false
set_option linter.unusedVariables false
set_option maxHeartbeats 4000000 in
set_option maxRecDepth 100000 in
theorem ndFindW_any (W0 : World) (k t tok : Int) (a : Option Addr) (n cap : Nat) (c : F) (w : World) (hw0 : Below W0.heap.size W0 w) (h : Sl W0 a n cap c) (hN : c.size ≤ 1000000) :
    Calls Tryd.prog 19 #[.agg #[.int .i64 k, .int .i64 t, .slice a n cap], .int .i64 tok] w fun e w' => ∃ (L : List Nd) (a' : Option Addr) (cap' : Nat), e = .returned (.slice a' L.length cap') ∧ L = ((visN allA ⟨k, t, c⟩).map (·.1)).filter (fun x => decide (x.t = tok)) ∧ SlQ (fun g => g < W0.heap.size ∨ w.heap.size ≤ g) w' a' L.length cap' (F.ofL L) ∧ Below w.heap.size w w' := by
  have hw0s := hw0.size
  have hb1 := below_alloc w (.cells #[.int .i64 k, .int .i64 t, .slice a n cap] 26 (0, 0))
  have hb2 := below_alloc (w.alloc (.cells #[.int .i64 k, .int .i64 t, .slice a n cap] 26 (0, 0))) (.cells #[.int .i64 tok] 3 (0, 0))
  have hb3 := below_alloc ((w.alloc (.cells #[.int .i64 k, .int .i64 t, .slice a n cap] 26 (0, 0))).alloc (.cells #[.int .i64 tok] 3 (0, 0))) (.cells #[.slice none 0 0] 24 (0, 0))
  have hb := (hb1.trans (hb2.mono hb1.size)).trans (hb3.mono (Nat.le_trans hb1.size hb2.size))
  have hI0 : FindI W0.heap.size (w.heap.size + 1) (w.heap.size + 2) (w.heap.size + 3) tok ⟨.slice none 0 0, [], fun _ => False⟩ (((w.alloc (.cells #[.int .i64 k, .int .i64 t, .slice a n cap] 26 (0, 0))).alloc (.cells #[.int .i64 tok] 3 (0, 0))).alloc (.cells #[.slice none 0 0] 24 (0, 0))) := by
    refine ⟨?_, ?_, by simp, fun _ h => h.elim, [], ownN_nil _ _, trivial⟩
    · have := (cell1_new (w.alloc (.cells #[.int .i64 k, .int .i64 t, .slice a n cap] 26 (0, 0))) 3 (.int .i64 tok)).alloc (.cells #[.slice none 0 0] 24 (0, 0))
      simpa using this
    · have := cell1_new ((w.alloc (.cells #[.int .i64 k, .int .i64 t, .slice a n cap] 26 (0, 0))).alloc (.cells #[.int .i64 tok] 3 (0, 0))) 24 (.slice none 0 0)
      simpa using this
  have hW := hide (walkF_any (.pointer (some ⟨w.heap.size + 1, 0, none⟩)) (.pointer (some ⟨w.heap.size + 2, 0, none⟩)) allA (FindR tok) (FindI W0.heap.size (w.heap.size + 1) (w.heap.size + 2) (w.heap.size + 3) tok) (FindC (w.heap.size + 1) (w.heap.size + 2)) W0 ⟨.slice none 0 0, [], fun _ => False⟩
    find_hI (find_hC ⟨by omega, by omega, by omega, by omega⟩)
    (fun s W k t a n cap c d hI _ _ hB hN hc0 hd => find1_any W0.heap.size (w.heap.size + 1) (w.heap.size + 2) (w.heap.size + 3) tok W0 rfl ⟨by omega, by omega, by omega, by omega, by omega⟩ s W k t a n cap c d hI hc0 hB hN (by
      obtain ⟨m, hm1, hm2⟩ := hd
      have := find_len tok hm1 rfl
      omega))
    k t a n cap c _ (hw0.trans (hb.mono hw0.size)) hI0 h hN)
  have hbs := hb.size
  replace hw0 := hide hw0
  have y := (boxN_new w k t a n cap).below (((below_alloc (w.alloc (.cells #[.int .i64 k, .int .i64 t, .slice a n cap] 26 (0, 0))) (.cells #[.int .i64 tok] 3 (0, 0))).trans (hb3.mono hb2.size))) (by simp)
  obtain ⟨y0, y1, y2⟩ := y
  replace hb := hide hb
  replace hI0 := hide hI0
  clear hb1 hb2 hb3
  go_enter Tryd.func19, Tryd.ntmps19
  go_wp2_with fail
  refine (unhide hW).mono ?_
  rintro e W2 ⟨rfl, s', hrs, hI2, hm2⟩
  have hL := find_rs tok _ _ _ hrs
  rw [List.nil_append] at hL
  obtain ⟨_, q2, _, qo, xs, hown, hrd⟩ := hI2
  have hb2 := hide ((unhide hb).trans (hm2.below (fun g hg => by
    rcases hg with hg | hg | hg | hg
    · omega
    · omega
    · cases hg
    · exact hg.elim) hbs))
  obtain ⟨v', l', O'⟩ := s'
  dsimp only at *
  obtain ⟨a', cap', rfl, hsl, _⟩ := OwnN.sl (P := fun g => g < W0.heap.size ∨ w.heap.size ≤ g) hown (hrd.mono (fun g hg => hg.1.1.imp id (fun h => by have := (qo g h).1; omega))) (fun g hg => .inr (by omega))
  have hxl : xs.length = l'.length := by rw [hrd.len, ofL_len]
  rw [hxl] at hsl q2
  have hc := q2.cell
  replace hL := hide hL
  replace hsl := hide hsl
  replace q2 := hide q2
  clear hrs hm2 hW hown hrd qo y0 y1 y2 hxl
  go_wp2
  go_ret
  exact ⟨l', a', cap', rfl, unhide hL, unhide hsl, unhide hb2⟩
end Go.Proofs.YthnapcdanccohaaDoor

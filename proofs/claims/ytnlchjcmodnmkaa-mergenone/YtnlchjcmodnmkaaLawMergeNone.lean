/-
  The law MergeNone.
-/
import Derived.Test.YtnlchjcmodnmkaaMgBegun
namespace Go.Proofs.Ytnlchjcmodnmkaa
open Go.RowKit Go.Lib Go.Sort
set_option linter.unusedSimpArgs false
set_option linter.unusedVariables false
set_option maxHeartbeats 4000000 in
set_option maxRecDepth 100000 in
theorem mergeNone_shell (w : World) : Calls Try.prog 6 #[] w fun e w' => e = .returned (.bool true) ∧ Below w.heap.size w w' := by
  have hA := hide (qAdd_nil w ed0)
  go_enter Try.func6, Try.ntmps6
  go_wp2_with fail
  refine (unhide hA).mono ?_
  rintro x W1 ⟨rfl, hB1⟩
  have hN := hide (qNext_nil W1)
  have hb1 := hB1.size
  replace hB1 := hide hB1
  go_wp2_with fail
  refine (unhide hN).mono ?_
  rintro x W2 ⟨rfl, hB2⟩
  replace hB2 := (unhide hB1).trans (hB2.mono hb1)
  obtain ⟨X2, hX2⟩ : ∃ X2, X2 = W2.alloc (.cells #[.int .i64 0, .int .i64 0, .string ⟨#[]⟩] 29 (0, 0)) := ⟨_, rfl⟩
  have hBx : Below w.heap.size w X2 := by rw [hX2]; exact hB2.alloc hB2.size _
  have hAll := hide (pAll_any (.slice none 0 0) [] X2 ⟨none, 0, rfl, Nat.le_refl _, Nat.zero_le _, fun h => absurd h (Nat.lt_irrefl 0)⟩ (by simp) (by simp) (by simp))
  rw [show ([] : List (List Ed)).flatten = [] from rfl, show once [] = [] from rfl, show mayB [] maxI = true from rfl, if_pos rfl] at hAll
  have hbx := hBx.size
  replace hBx := hide hBx
  replace hB2 := hide hB2
  replace hX2 := hide hX2
  go_wp2_with fail
  rw [← unhide hX2]
  refine (unhide hAll).mono ?_
  rintro x W3 ⟨v3, rfl, ho3, hB3⟩
  have hB3' := (unhide hBx).trans (hB3.mono hbx)
  obtain ⟨a3, c3, rfl⟩ : ∃ a3 c3, v3 = .slice a3 0 c3 := by
    rcases ho3.forms with ⟨rfl, _⟩ | ⟨g, cap, rfl, _⟩
    · exact ⟨none, 0, rfl⟩
    · exact ⟨_, cap, rfl⟩
  have hBeg := hide (begun_any W3)
  have hb3 := hB3'.size
  replace ho3 := hide ho3
  replace hB3 := hide hB3
  replace hB3' := hide hB3'
  go_wp2_with fail
  refine (unhide hBeg).mono ?_
  rintro x W4 ⟨rfl, hB4⟩
  have hL := hide (qLen_nil W4)
  go_wp2_with fail
  refine (unhide hL).mono ?_
  rintro x W5 ⟨rfl, rfl⟩
  go_wp2
  go_ret
  exact ⟨rfl, (unhide hB3').trans (hB4.mono hb3)⟩
end Go.Proofs.Ytnlchjcmodnmkaa

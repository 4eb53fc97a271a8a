/-
  ScopeNone's walk.
-/
import Derived.Test.YtlmfoieolomcfaaSpBegun
namespace Go.Proofs.Ytlmfoieolomcfaa
open Go.RowKit Go.Maps Go.Lib Go.WideMaps
set_option linter.unusedSimpArgs false
set_option linter.unusedVariables false
set_option maxHeartbeats 2000000 in
set_option maxRecDepth 100000 in
theorem scopeNone_shell (w : World) : Calls Try.prog 5 #[] w fun e w' => e = .returned (.bool true) ∧ Below w.heap.size w w' := by
  have h1 := hide (fun w => pushN_any w)
  have h2 := hide (fun w => findN_any ⟨#[120]⟩ w)
  have h3 := hide (fun w => hereN_any ⟨#[120]⟩ w)
  have h4 := hide (fun w => slScope_any w)
  have h5 := hide (fun w => popN_any w)
  have h6 := hide (fun w => addN_any ⟨#[120]⟩ 0 0 0 w)
  have h7 := hide (fun w => deepN_any w)
  go_enter Try.func5, Try.ntmps5
  go_wp2_with fail
  refine (unhide h1 _).mono ?_
  rintro e w1 ⟨rfl, rfl⟩
  go_wp2_with fail
  refine (unhide h2 _).mono ?_
  rintro e w2 ⟨rfl, hb⟩
  simp only [fndV]
  have hb2 := hide (hb.trans ((below_alloc w2 (.cells #[.int .i64 0, .int .i64 0, .int .i64 0] 34 (0, 0))).mono hb.size))
  clear hb
  go_wp2_with fail
  refine (unhide h3 _).mono ?_
  rintro e w3 ⟨rfl, hb⟩
  simp only [fndV]
  have hb3 := (unhide hb2).trans (hb.mono (unhide hb2).size)
  have hb4 := hide (hb3.trans ((below_alloc w3 (.cells #[.int .i64 0, .int .i64 0, .int .i64 0] 34 (0, 0))).mono hb3.size))
  clear hb hb2 hb3
  go_wp2_with fail
  refine (unhide h4 _).mono ?_
  rintro e w4 ⟨rfl, hb⟩
  have hb5 := hide ((unhide hb4).trans (hb.mono (unhide hb4).size))
  clear hb hb4
  go_wp2_with fail
  refine (unhide h5 _).mono ?_
  rintro e w5 ⟨rfl, rfl⟩
  go_wp2_with fail
  refine (unhide h6 _).mono ?_
  rintro e w6 ⟨rfl, hb⟩
  have hb6 := hide ((unhide hb5).trans (hb.mono (unhide hb5).size))
  clear hb hb5
  go_wp2_with fail
  refine (unhide h7 _).mono ?_
  rintro e w7 ⟨rfl, rfl⟩
  go_wp2
  go_ret
  exact ⟨rfl, unhide hb6⟩
end Go.Proofs.Ytlmfoieolomcfaa

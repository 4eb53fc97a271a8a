/-
  TokenRanks' walk.
-/
import Derived.Test.YtmapohaobinjjaaTokBegun
import Derived.Test.YtmapohaobinjjaaModIx
import Derived.Deep.DeepCutAuto
namespace Go.Proofs.Ytmapohaobinjjaa
open Go.RowKit
set_option linter.unusedSimpArgs false
def opsR : List ByteArray := [⟨#[124, 124]⟩, ⟨#[38, 38]⟩, ⟨#[61, 61]⟩, ⟨#[33, 61]⟩, ⟨#[60]⟩, ⟨#[43]⟩, ⟨#[45]⟩, ⟨#[42]⟩]
theorem opsR_facts (s : ByteArray) (h : s ∈ opsR) : isOp s = true ∧ (1 ≤ rankN s ∧ rankN s ≤ 5) ∧ spaceB ⟨0, ⟨#[]⟩, 0, 0, false⟩ ⟨1, ⟨#[97]⟩, 0, 0, false⟩ ⟨4, s, 0, 0, false⟩ = true ∧ spaceB ⟨1, ⟨#[97]⟩, 0, 0, false⟩ ⟨4, s, 0, 0, false⟩ ⟨1, ⟨#[98]⟩, 0, 0, false⟩ = true ∧ endB ⟨4, s, 0, 0, false⟩ = false := by
  simp only [opsR, List.mem_cons, List.not_mem_nil, or_false] at h
  rcases h with rfl | rfl | rfl | rfl | rfl | rfl | rfl | rfl
  all_goals exact ⟨by kernel_rfl, ⟨of_decide_eq_true (by kernel_rfl), of_decide_eq_true (by kernel_rfl)⟩, by kernel_rfl, by kernel_rfl, by kernel_rfl⟩
set_option maxHeartbeats 2000000 in
set_option maxRecDepth 100000 in
theorem tokenRanks_shell (a0 : Int) (w0 : (Lit.int .i64 a0).wf = true) (w : World) :
    Calls Try.prog 5 #[.int .i64 a0] w fun e w' => e = .returned (.bool true) ∧ Below w.heap.size w w' := by
  obtain ⟨hn0, hn1⟩ := bounds_i64 w0
  clear w0
  obtain ⟨j, hj, hlt⟩ := mod_ix a0 8 (by omega) (by omega)
  have hlt' : j < 8 := by omega
  have hlt'' : j < opsR.length := hlt'
  obtain ⟨s, hs⟩ : ∃ s, opsR.getD j ⟨#[]⟩ = s := ⟨_, rfl⟩
  have hm : s ∈ opsR := by rw [← hs, List.getD, List.getElem?_eq_getElem hlt'']; exact List.getElem_mem hlt''
  obtain ⟨f1, ⟨f2, f3⟩, f4, f5, f6⟩ := opsR_facts s hm
  have HO := fun w => tOp_any s w
  have HR := fun w => tRank_any s w
  have HS := fun w => tSpace_any ⟨0, ⟨#[]⟩, 0, 0, false⟩ ⟨1, ⟨#[97]⟩, 0, 0, false⟩ ⟨4, s, 0, 0, false⟩ w
  have HT := fun w => tSpace_any ⟨1, ⟨#[97]⟩, 0, 0, false⟩ ⟨4, s, 0, 0, false⟩ ⟨1, ⟨#[98]⟩, 0, 0, false⟩ w
  have HE := fun w => tEnds_any ⟨4, s, 0, 0, false⟩ w
  have HA := fun w => lword_any ⟨#[97]⟩ w
  have HB := fun w => lword_any ⟨#[98]⟩ w
  have HP := fun w => lop_any s w
  rw [f1] at HO
  rw [f4] at HS
  rw [f5] at HT
  rw [f6] at HE
  simp only [Tk.val] at HS HT HE HA HB HP
  generalize rankN s = r at *
  have hcell : ∀ (W : World), (W.alloc (.cells (opsR.map Value.string).toArray 9)).cell? ⟨W.heap.size, j, none⟩ = some (.string s) := fun W => by
    obtain ⟨_, _, _, he, _, _, _, h4⟩ := lst_alloc W (opsR.map Value.string) 9 (0, 0) (by decide)
    simp only [Value.slice.injEq, Option.some.injEq, Addr.mk.injEq, true_and, and_true] at he
    obtain ⟨⟨rfl, rfl⟩, rfl⟩ := he
    have h := h4 j (by rw [List.length_map]; exact hlt'')
    rw [Nat.zero_add] at h
    rw [h, ← hs]
    simp [List.getD, hlt'']
  replace hcell := hide hcell
  clear hs hm hlt'' f1 f4 f5 f6
  replace HO := hide HO
  replace HR := hide HR
  replace HS := hide HS
  replace HT := hide HT
  replace HE := hide HE
  replace HA := hide HA
  replace HB := hide HB
  replace HP := hide HP
  go_enter Try.func5, Try.ntmps5
  go_wp2_with fail
  refine (begun_any _).mono ?_
  rintro e W1 ⟨rfl, hw⟩
  go_upto_region 5 with fail
  have hc := unhide hcell W1
  have hw := below3 hw (below_alloc W1 (.cells (opsR.map Value.string).toArray 9))
  simp only [opsR, List.map_cons, List.map_nil] at hc hw
  generalize World.alloc _ _ = W at *
  generalize W1.heap.size = g at *
  go_wp2_with fail
  refine (unhide HO _).mono ?_
  rintro e W2 ⟨rfl, rfl⟩
  go_wp2_with fail
  refine (unhide HR _).mono ?_
  rintro e W3 ⟨rfl, rfl⟩
  go_wp2_with fail
  refine (unhide HR _).mono ?_
  rintro e W4 ⟨rfl, rfl⟩
  go_wp2_with fail
  refine (unhide HA _).mono ?_
  rintro e W5 ⟨rfl, hw5⟩
  replace hw := below3 hw hw5
  go_wp2_with fail
  refine (unhide HP _).mono ?_
  rintro e W6 ⟨rfl, hw6⟩
  replace hw := below3 hw hw6
  go_wp2_with fail
  refine (unhide HS _).mono ?_
  rintro e W7 ⟨rfl, hw7⟩
  replace hw := below3 hw hw7
  go_wp2_with fail
  refine (unhide HA _).mono ?_
  rintro e W8 ⟨rfl, hw8⟩
  replace hw := below3 hw hw8
  go_wp2_with fail
  refine (unhide HP _).mono ?_
  rintro e W9 ⟨rfl, hw9⟩
  replace hw := below3 hw hw9
  go_wp2_with fail
  refine (unhide HB _).mono ?_
  rintro e W10 ⟨rfl, hw10⟩
  replace hw := below3 hw hw10
  go_wp2_with fail
  refine (unhide HT _).mono ?_
  rintro e W11 ⟨rfl, hw11⟩
  replace hw := below3 hw hw11
  go_wp2_with fail
  refine (unhide HP _).mono ?_
  rintro e W12 ⟨rfl, hw12⟩
  replace hw := below3 hw hw12
  go_wp2_with fail
  refine (unhide HE _).mono ?_
  rintro e W13 ⟨rfl, hw13⟩
  replace hw := below3 hw hw13
  go_wp2
  go_ret
  exact ⟨rfl, hw⟩
end Go.Proofs.Ytmapohaobinjjaa

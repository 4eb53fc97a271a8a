/-
  slices.Concat of edits.
-/
import Derived.Test.YtpjpghigilbfaaaEdRow
import Derived.Test.YtpjpghigilbfaaaWrap
import Derived.Deep.LoopGhost
import Derived.Lib.AppendZeros
import Derived.WalkSmall
namespace Go.Proofs.Ytpjpghigilbfaaa
open Go.RowKit
set_option linter.unusedSimpArgs false
set_option linter.unusedVariables false
set_option maxHeartbeats 400000 in
set_option maxRecDepth 100000 in
theorem growE_nil (n : Nat) (w : World) (hn : n ≤ 1000000) :
    Calls Try.prog 34 #[.slice none 0 0, .int .i64 n] w fun e w' => ∃ v, e = .returned v ∧ OwnE w' w.heap.size v [] ∧ Below w.heap.size w w' := by
  obtain ⟨i0, hi, hz0, hz1, hz2⟩ := info_parts Try.info29
  by_cases h0 : 0 < n
  · have hr : ∀ ty, (Builtin.append_ #[22, 3] ty #[.slice none 0 0, .int .i64 n]).run Try.prog w = _ := fun ty => Lib.run_append_nil_zeros w 22 3 ty 29 i0 _ .i64 .i64 Try.underlying22 Try.underlying3 hi hz0 n h0 (by omega) (by omega) (by rw [hz2]; omega)
    have hg1 := grownCap_ge w n 0 29
    have hg2 := grownCap_le_maxLen w n 0 29 (by unfold maxLen; omega)
    generalize grownCap w n 0 29 = G at *
    unfold maxLen at hg2
    go_enter Try.func34, Try.ntmps34
    go_wp2_with (at_builtin; refine Lib.wpList_append_run _ rfl _ _ _ _ rfl _ _ rfl rfl _ _ (hr _) ?_)
    go_ret
    refine ⟨_, rfl, ⟨by simp [edsC], .inr ⟨w.heap.size, G, _, rfl, Nat.le_refl _, heap_alloc_new _ _, by simp, by unfold maxLen; omega, ?_, by simp [edsC]⟩⟩, (Below.refl _ _).drew.alloc (Nat.le_refl _) _⟩
    simp [size_zeroCells]
    omega
  · obtain rfl : n = 0 := by omega
    go_enter Try.func34, Try.ntmps34
    go_wp2
    go_ret
    exact ⟨_, rfl, ownE_nil _ _, Below.refl _ _⟩
def tot (xss : List (List Ed)) (k : Nat) : List Ed := (xss.take k).flatten
theorem tot_succ (xss : List (List Ed)) (k : Nat) (h : k < xss.length) : tot xss (k + 1) = tot xss k ++ xss.getD k [] := by
  unfold tot
  rw [List.take_succ_eq_append_getElem h, List.flatten_append]
  simp [List.getD, h]
theorem tot_all (xss : List (List Ed)) (k : Nat) (h : xss.length ≤ k) : tot xss k = xss.flatten := by
  unfold tot
  rw [List.take_of_length_le h]
theorem tot_le (xss : List (List Ed)) (k : Nat) : (tot xss k).length ≤ xss.flatten.length := by
  have : xss.flatten = tot xss k ++ (xss.drop k).flatten := by
    unfold tot
    rw [← List.flatten_append, List.take_append_drop]
  rw [this]; simp
/-- A slice holds these lists of edits. -/
def Edss (w : World) (v : Value) (Ls : List (List Ed)) : Prop :=
  ∃ a c, v = .slice a Ls.length c ∧ Ls.length ≤ c ∧ c ≤ maxLen ∧ (0 < Ls.length → ∃ b off, a = some ⟨b, off, none⟩ ∧ b < w.heap.size ∧
    ∀ i, i < Ls.length → ∃ u, w.cell? ⟨b, off + i, none⟩ = some u ∧ Eds w u (Ls.getD i []) ∧ ∀ c, u = .slice none 0 c → c = 0)
set_option maxHeartbeats 2000000 in
set_option maxRecDepth 100000 in
theorem concat_any (v : Value) (Ls : List (List Ed)) (w : World) (h : Edss w v Ls) (hl : Ls.flatten.length ≤ 1000000) (hk : Ls.length ≤ 1000000) :
    Calls Try.prog 24 #[v] w fun e w' => ∃ v', e = .returned v' ∧ OwnE w' w.heap.size v' Ls.flatten ∧ Below w.heap.size w w' := by
  obtain ⟨a, c, rfl, h1, h2, h3⟩ := h
  obtain ⟨n, hn⟩ : ∃ n, Ls.length = n := ⟨_, rfl⟩
  unfold maxLen at h2
  have hT := hide (tot_le Ls)
  have hA := hide (tot_all Ls n (by omega))
  have hS := hide (fun k (h : k < n) => tot_succ Ls k (by omega))
  rw [hn] at h1 h3 hk ⊢
  replace h3 := hide h3
  generalize Ls.flatten = F at *
  go_enter Try.func24, Try.ntmps24
  go_wp2
  go_loopg [3, 5, 11] n (fun gf s3 s5 s11 wx => ∃ i T : Nat, s3 = .int .i64 T ∧ s11 = .int .i64 i ∧ i + gf = n ∧ w = wx ∧ T = (tot Ls i).length)
  case atStart => exact ⟨0, 0, rfl, rfl, by omega, rfl, rfl⟩
  case round =>
    obtain ⟨i, T, rfl, rfl, hi, rfl, hTe⟩ := hrel
    by_cases hlt : i < n
    · have hlz : (i : Int) < n := by omega
      obtain ⟨g', rfl⟩ : ∃ g', gk = g' + 1 := ⟨gk - 1, by omega⟩
      obtain ⟨b, off, rfl, hb, hc⟩ := unhide h3 (by omega)
      obtain ⟨u, hu, ⟨au, cu, rfl, hu1, hu2, _⟩, _⟩ := hc i hlt
      have e1 := hide (unhide hS i hlt)
      have e2 := unhide hT (i + 1)
      rw [unhide e1, List.length_append, ← hTe] at e2
      obtain ⟨m, hm⟩ : ∃ m, (Ls.getD i []).length = m := ⟨_, rfl⟩
      have e1' : Hid (T + m = (tot Ls (i + 1)).length) := hide (by rw [unhide e1, List.length_append, ← hTe, hm])
      rw [hm] at e2 hu hu1
      clear hc e1 hTe hm
      have e5 : T + m ≤ 1000000 := by omega
      go_wp2
      go_roundg g'
      case measure => omega
      case rel => exact ⟨i + 1, T + m, by go_num, by go_num, by omega, by trivial, unhide e1'⟩
    · have hlz : ¬ (i : Int) < n := by omega
      obtain rfl : i = n := by omega
      rw [unhide hA] at hTe
      have hTl : T ≤ 1000000 := by omega
      have H1 := hide (growE_nil T w hTl)
      replace hTe := hide hTe
      go_wp2_with fail
      refine (unhide H1).mono ?_
      rintro e W1 ⟨v1, rfl, ho1, hb1⟩
      replace ho1 : Hid (OwnE W1 w.heap.size v1 (tot Ls 0)) := hide ho1
      go_wp2
      go_loopg [6, 8, 27] i (fun gf s6 s8 s27 wx => ∃ j : Nat, s27 = .int .i64 j ∧ j + gf = i ∧ OwnE wx w.heap.size s6 (tot Ls j) ∧ Below w.heap.size w wx)
      case atStart => exact ⟨0, rfl, by omega, unhide ho1, hb1⟩
      case round =>
        obtain ⟨j, rfl, hj, hown, hbw⟩ := hrel
        by_cases hlt : j < i
        · have hlz : (j : Int) < i := by omega
          obtain ⟨g', rfl⟩ : ∃ g', gk = g' + 1 := ⟨gk - 1, by omega⟩
          obtain ⟨b, off, rfl, hb, hc⟩ := unhide h3 (by omega)
          obtain ⟨u, hu, hE, hN⟩ := hc j hlt
          have hE' := hide (hE.below hbw)
          rw [← hbw.cell (by exact hb)] at hu
          have hsum := unhide hT (j + 1)
          rw [unhide hS j hlt, List.length_append] at hsum
          have e1 := hide (unhide hS j hlt)
          have hown' := hide hown
          have hbs := hbw.size
          clear hc hE
          generalize Ls.getD j [] = M at *
          replace hN := hide hN
          replace hown := hide hown
          replace hsum := hide hsum
          go_wp2_with (at_builtin; refine wpList_append_eds _ rfl _ _ rfl w.heap.size _ (tot Ls j) rfl (unhide hown) _ M rfl (unhide hE') (unhide hN) (by have := unhide hsum; omega) hbs ?_)
          intro v' w1 ho1 hg1
          have hb1 := hbw.grown hg1 hbs (fun k hk => (World.ownsRow.lt (unhide hown) k hk).1)
          rw [← unhide e1] at ho1
          replace ho1 := hide ho1
          go_wp2
          go_roundg g'
          case measure => omega
          case rel => exact ⟨j + 1, by go_num, by omega, unhide ho1, hb1⟩
        · have hlz : ¬ (j : Int) < i := by omega
          obtain rfl : j = i := by omega
          rw [unhide hA] at hown
          replace hown := hide hown
          go_wp2
          go_ret
          exact ⟨_, rfl, unhide hown, hbw⟩
end Go.Proofs.Ytpjpghigilbfaaa

/-
  The law's own eq.
-/
import Derived.Test.YtpjpghigilbfaaaOwnEd
import Derived.Test.YtpjpghigilbfaaaMgMath
import Derived.Deep.LoopGhost
import Derived.BigQuiet
import Derived.WalkSmall
namespace Go.Proofs.Ytpjpghigilbfaaa
open Go.RowKit
set_option linter.unusedSimpArgs false
set_option linter.unusedVariables false
set_option maxHeartbeats 8000000 in
set_option maxRecDepth 100000 in
theorem mlEq_any (u v : Value) (A B : List Ed) (w : World) (ha : Eds w u A) (hb : Eds w v B) (hl : A.length ≤ 1000000) (hl2 : B.length ≤ 1000000) :
    Calls Try.prog 12 #[u, v] w fun e w' => e = .returned (.bool (decide (A = B))) ∧ ∃ q, w' = w.drewN q := by
  obtain ⟨a, c, rfl, h1, h2, h3⟩ := ha
  obtain ⟨b, c', rfl, k1, k2, k3⟩ := hb
  unfold maxLen at h2 k2
  obtain ⟨n, hn⟩ : ∃ n, A.length = n := ⟨_, rfl⟩
  obtain ⟨m, hm⟩ : ∃ m, B.length = m := ⟨_, rfl⟩
  have hno1 : Hid (¬ n = m → decide (A = B) = false) := hide (fun h => by simp only [decide_eq_false_iff_not]; rintro rfl; exact h (by rw [← hn, ← hm]))
  have hno2 : Hid (∀ i, i < n → A.getD i ed0 ≠ B.getD i ed0 → decide (A = B) = false) := hide (fun i hi h => by simp only [decide_eq_false_iff_not]; rintro rfl; exact h rfl)
  have hyes : Hid (n = m → (∀ i, i < n → A.getD i ed0 = B.getD i ed0) → decide (A = B) = true) := hide (fun h h' => by
    simp only [decide_eq_true_eq]
    refine List.ext_getElem (by omega) fun i hi hj => ?_
    have := h' i (by omega)
    simpa [List.getD, hi, hj] using this)
  generalize decide (A = B) = R at *
  rw [hn] at hl h1 h3 ⊢
  rw [hm] at hl2 k1 k3 ⊢
  replace h3 := hide h3
  replace k3 := hide k3
  by_cases hnm : n = m
  · subst hnm
    go_enter Try.func12, Try.ntmps12
    go_wp2
    go_loopg [5] n (fun gf s5 wx => ∃ i q : Nat, s5 = .int .i64 i ∧ i + gf = n ∧ wx = w.drewN q ∧ ∀ j, j < i → A.getD j ed0 = B.getD j ed0)
    case atStart => exact ⟨0, 0, rfl, by omega, rfl, fun j hj => absurd hj (Nat.not_lt_zero _)⟩
    case round =>
      obtain ⟨i, q, rfl, hi, rfl, hall⟩ := hrel
      by_cases hlt : i < n
      · have hlz : (i : Int) < n := by omega
        obtain ⟨g', rfl⟩ : ∃ g', gk = g' + 1 := ⟨gk - 1, by omega⟩
        obtain ⟨g, off, rfl, hg, hc⟩ := unhide h3 (by omega)
        obtain ⟨j, off', rfl, hj, hd⟩ := unhide k3 (by omega)
        obtain ⟨x0, x1, x2⟩ := hc i hlt
        obtain ⟨y0, y1, y2⟩ := hd i hlt
        have hno := hide (unhide hno2 i hlt)
        have hnext : Hid (A.getD i ed0 = B.getD i ed0 → ∀ j, j < i + 1 → A.getD j ed0 = B.getD j ed0) := hide (fun h j hj => by
          by_cases e : j = i
          · subst e; exact h
          · exact hall j (by omega))
        clear hc hd
        replace hall := hide hall
        change (w.drewN q).cell? _ = _ at x0
        change (w.drewN q).cell? _ = _ at x1
        change (w.drewN q).cell? _ = _ at x2
        change (w.drewN q).cell? _ = _ at y0
        change (w.drewN q).cell? _ = _ at y1
        change (w.drewN q).cell? _ = _ at y2
        obtain ⟨W, hW⟩ : ∃ W, w.drewN q = W := ⟨_, rfl⟩
        rw [hW] at x0 x1 x2 y0 y1 y2 ⊢
        replace hW := hide hW
        generalize A.getD i ed0 = E at *
        generalize B.getD i ed0 = F at *
        obtain ⟨ep, en, es⟩ := E
        obtain ⟨fp, fn, fs⟩ := F
        dsimp only at *
        by_cases e1 : ep = fp
        · subst e1
          have b1 : (ep != ep) = false := by simp
          by_cases e2 : en = fn
          · subst e2
            have b2 : (en != en) = false := by simp
            by_cases e3 : es.toList = fs.toList
            · have e4 : es = fs := by
                have := e3
                rw [ByteArray.toList_eq, ByteArray.toList_eq] at this
                exact ByteArray.ext (Array.ext' this)
              subst e4
              have b3 : (es.toList != es.toList) = false := by simp
              have hf := hide (unhide hnext rfl)
              go_wp2
              go_quiet (fail)
              go_wp2
              go_roundg g'
              case measure => omega
              case rel => exact ⟨i + 1, q + nq, by go_num, by omega, by rw [← unhide hW, World.drewN_drewN], unhide hf⟩
            · have b3 : (es.toList == fs.toList) = false := by simpa using e3
              have hf := hide (unhide hno (fun h => e3 (by injection h with _ _ h; rw [h])))
              replace e3 := hide e3
              go_wp2
              go_quiet (fail)
              go_wp2
              go_ret
              exact ⟨ret_bool (by rw [unhide hf]), q + nq, by rw [← unhide hW, World.drewN_drewN]⟩
          · have b2 : (en != fn) = true := by simpa using e2
            have hf := hide (unhide hno (fun h => e2 (by injection h)))
            replace e2 := hide e2
            go_wp2
            go_quiet (fail)
            go_wp2
            go_ret
            exact ⟨ret_bool (by rw [unhide hf]), q + nq, by rw [← unhide hW, World.drewN_drewN]⟩
        · have b1 : (ep != fp) = true := by simpa using e1
          have hf := hide (unhide hno (fun h => e1 (by injection h)))
          replace e1 := hide e1
          go_wp2
          go_quiet (fail)
          go_wp2
          go_ret
          exact ⟨ret_bool (by rw [unhide hf]), q + nq, by rw [← unhide hW, World.drewN_drewN]⟩
      · have hlz : ¬ (i : Int) < n := by omega
        obtain rfl : i = n := by omega
        have hf := hide (unhide hyes (by trivial) hall)
        replace hall := hide hall
        go_wp2
        go_ret
        exact ⟨ret_bool (by rw [unhide hf]), q, rfl⟩
  · have hf := hide (unhide hno1 hnm)
    have hnz : ¬ (n : Int) = m := by omega
    go_enter Try.func12, Try.ntmps12
    go_wp2
    go_ret
    exact ⟨ret_bool (by rw [unhide hf]), 0, rfl⟩
end Go.Proofs.Ytpjpghigilbfaaa

/-
  slices.Compact of edits.
-/
import Derived.Test.YtpjpghigilbfaaaEdPut
import Derived.Test.YtpjpghigilbfaaaWrap
import Derived.Deep.LoopGhost
import Derived.BigQuiet
import Derived.WalkSmall
import Derived.Laws.StructEq
import Derived.Lib.AppendZeros
namespace Go.Proofs.Ytpjpghigilbfaaa
open Go.RowKit Go.Lib
set_option linter.unusedSimpArgs false
set_option linter.unusedVariables false
theorem neq_ed (d e : Ed) (w : World) : (binOp .neq 29 (.agg #[.int .i64 d.p, .int .i64 d.n, .string d.s]) (.agg #[.int .i64 e.p, .int .i64 e.n, .string e.s])).run Try.prog w = .ok (.bool (!decide (d = e))) w := by
  have u1 := Try.underlying3
  have u2 := Try.underlying9
  have hS : Try.prog.underlying 29 = some (.struct (Try.prog.fieldsOf 29)) := by kernel_rfl
  have hp : Try.prog.stoodInHeld 29 = false := by kernel_rfl
  rw [run_neq_struct, show (10000 : Nat) = 9999 + 1 from rfl, run_equalIn_agg w 9999 29 _ _ hS hp]
  simp only [Program.fieldsOf, Try.underlying29]
  go_simp
  obtain ⟨p, n, ⟨⟨s⟩⟩⟩ := d
  obtain ⟨q, m, ⟨⟨t⟩⟩⟩ := e
  simp only [ByteArray.toList_eq, Ed.mk.injEq, ByteArray.mk.injEq, Array.mk.injEq]
  by_cases h1 : p = q <;> by_cases h2 : n = m <;> by_cases h3 : s = t <;> simp [h1, h2, h3]
theorem eql_ed (d e : Ed) (w : World) : (binOp .eql 29 (.agg #[.int .i64 d.p, .int .i64 d.n, .string d.s]) (.agg #[.int .i64 e.p, .int .i64 e.n, .string e.s])).run Try.prog w = .ok (.bool (decide (d = e))) w := by
  have u1 := Try.underlying3
  have u2 := Try.underlying9
  have hS : Try.prog.underlying 29 = some (.struct (Try.prog.fieldsOf 29)) := by kernel_rfl
  have hp : Try.prog.stoodInHeld 29 = false := by kernel_rfl
  rw [run_eql_struct, show (10000 : Nat) = 9999 + 1 from rfl, run_equalIn_agg w 9999 29 _ _ hS hp]
  simp only [Program.fieldsOf, Try.underlying29]
  go_simp
  obtain ⟨p, n, ⟨⟨s⟩⟩⟩ := d
  obtain ⟨q, m, ⟨⟨t⟩⟩⟩ := e
  simp only [ByteArray.toList_eq, Ed.mk.injEq, ByteArray.mk.injEq, Array.mk.injEq]
  by_cases h1 : p = q <;> by_cases h2 : n = m <;> by_cases h3 : s = t <;> simp [h1, h2, h3]
theorem guard_ed (op : BinOp) (x y : Operand) (xs ys : Array Value) (w : World) : (eqGuard op 29 x y (.agg xs) (.agg ys)).run Try.prog w = .ok () w := run_eqGuard_agg w op 29 x y xs ys (by kernel_rfl)
theorem getD_arr (d : Array Ed) (i : Nat) : d.toList.getD i ed0 = d[i]! := by
  by_cases h : i < d.size
  · rw [getElem!_pos d i h]; simp [List.getD, h]
  · rw [getElem!_neg d i h]; simp [List.getD, h]; rfl
theorem compInv_take {d dk : Array Ed} {m k : Nat} (h : CompInv d m k dk) (hm : m ≤ d.size) : dk.toList.take k = compactUpTo d m := by
  apply List.ext_getElem?
  intro j
  have h1 := h.lt
  have h2 := h.size
  by_cases hj : j < k
  · rw [List.getElem?_take_of_lt hj, h.low j hj, Array.getElem?_toList, getElem!_pos dk j (by omega), Array.getElem?_eq_getElem (by omega)]
  · rw [List.getElem?_take_eq_none (by omega), List.getElem?_eq_none (by rw [h.len]; omega)]
set_option maxHeartbeats 4000000 in
set_option maxRecDepth 100000 in
theorem compact_any (g cap base : Nat) (L : List Ed) (w : World) (h : RowE w g cap L) (hl : L.length ≤ 1000000) (hb1 : base ≤ g) (hb2 : base ≤ w.heap.size) :
    Calls Try.prog 25 #[.slice (some ⟨g, 0, none⟩) L.length cap] w fun e w' => e = .returned (.slice (some ⟨g, 0, none⟩) (compact L).length cap) ∧ RowE w' g cap (compact L) ∧ Below base w w' := by
  obtain ⟨n, hn⟩ : ∃ n, L.length = n := ⟨_, rfl⟩
  obtain ⟨C, hC⟩ : ∃ C, compact L = C := ⟨_, rfl⟩
  have hcap := h.room
  have hCe : Hid (compactUpTo L.toArray n = C) := hide (by rw [← hC, compact, hn])
  have hall : Hid ((∀ j, j < n → keeps L.toArray j = true) → C = L) := hide (fun hh => by rw [← hC]; exact compact_all L (by rw [hn]; exact hh))
  have hds : L.toArray.size = n := by simpa using hn
  rw [hC, hn]
  rw [hn] at hl hcap
  unfold maxLen at hcap
  clear hC
  by_cases h2 : n < 2
  · have hcl := hide (unhide hall (fun j hj => keeps_lt_one _ j (by omega)))
    replace h := hide h
    have hz : (n : Int) < 2 := by omega
    go_enter Try.func25, Try.ntmps25
    go_wp2
    go_ret
    rw [unhide hcl, hn]
    exact ⟨rfl, unhide h, Below.refl _ _⟩
  · have hz : ¬ (n : Int) < 2 := by omega
    replace h := hide h
    replace hn := hide hn
    replace hds := hide hds
    go_enter Try.func25, Try.ntmps25
    go_wp2
    go_loopg [3] n (fun gf s3 wr => ∃ k : Nat, s3 = .int .i64 k ∧ 1 ≤ k ∧ k ≤ n ∧ n ≤ k + gf ∧ RowE wr g cap L ∧ Below base w wr ∧ ∀ j, j < k → keeps L.toArray j = true)
    case atStart => exact ⟨1, rfl, Nat.le_refl _, by omega, by omega, unhide h, Below.refl _ _, keeps_lt_one _⟩
    case round =>
      obtain ⟨k, rfl, hk1, hkn, hkg, hR, hbw, hkeep⟩ := hrel
      by_cases hlt : k < n
      · have hlz : (k : Int) < n := by omega
        obtain ⟨g', rfl⟩ : ∃ g', gk = g' + 1 := ⟨gk - 1, by omega⟩
        obtain ⟨x0, x1, x2⟩ := hR.at k (by rw [unhide hn]; exact hlt)
        obtain ⟨y0, y1, y2⟩ := hR.at (k - 1) (by rw [unhide hn]; omega)
        have hX : Hid (L.toArray[k]! = L.getD k ed0) := hide (getD_arr L.toArray k).symm
        have hY : Hid (L.toArray[k - 1]! = L.getD (k - 1) ed0) := hide (getD_arr L.toArray (k - 1)).symm
        generalize L.getD k ed0 = X at *
        generalize L.getD (k - 1) ed0 = Y at *
        replace hkeep := hide hkeep
        have hgd := guard_ed
        have heq := fun W => eql_ed X Y W
        by_cases hxy : X = Y
        · subst hxy
          simp only [decide_true] at heq
          have hst := hide (CompInv.start (unhide hkeep) (keeps_neg (by omega) (by rw [unhide hX, unhide hY])))
          obtain ⟨xp, xn, xs⟩ := X
          dsimp only at *
          have hck : ¬ cap = k := by omega
          go_wp2
          go_quiet (fail)
          have hR' : Hid (RowE (wr.drewN nq) g cap L) := hide hR
          have hbw' := below_drewN hbw nq
          clear x0 x1 x2 y0 y1 y2 hR hbw
          generalize wr.drewN nq = W1 at *
          go_wp2
          replace hR' := unhide hR'
          go_loopg [3, 5] n (fun gf s3 s5 wx => ∃ (kk k2 : Nat) (dk : Array Ed), s3 = .int .i64 kk ∧ s5 = .int .i64 k2 ∧ 1 ≤ k2 ∧ k + k2 ≤ n ∧ n ≤ k + k2 + gf ∧ RowE wx g cap dk.toList ∧ Below base w wx ∧ CompInv L.toArray (k + k2) kk dk)
          case atStart => exact ⟨k, 1, L.toArray, rfl, rfl, Nat.le_refl _, by omega, by omega, hR', hbw', unhide hst⟩
          case round =>
            obtain ⟨kk, k2, dk, rfl, rfl, hp1, hp2, hp3, hR, hbw, hI⟩ := hrel
            have hkk := hI.lt
            have hdk : dk.toList.length = n := by rw [Array.length_toList, hI.size, unhide hds]
            by_cases hlt2 : k + k2 < n
            · have hlz2 : (k2 : Int) < ((n - k : Nat) : Int) := by omega
              obtain ⟨g2, rfl⟩ : ∃ g2, gk = g2 + 1 := ⟨gk - 1, by omega⟩
              obtain ⟨x0, x1, x2⟩ := hR.at (k + k2) (by omega)
              obtain ⟨y0, y1, y2⟩ := hR.at (k + k2 - 1) (by omega)
              obtain ⟨z0, z1, z2⟩ := hR.at kk (by omega)
              have f0 := hR.frozen (kk * 3)
              have f1 := hR.frozen (kk * 3 + 1)
              have f2 := hR.frozen (kk * 3 + 2)
              have eX : dk.toList.getD (k + k2) ed0 = L.toArray[k + k2]! := by rw [getD_arr, hI.high _ (by omega)]
              have eY : dk.toList.getD (k + k2 - 1) ed0 = L.toArray[k + k2 - 1]! := by rw [getD_arr, hI.high _ (by omega)]
              rw [eX, show (k + k2) * 3 = k * 3 + k2 * 3 by omega] at x0 x1 x2
              rw [eY, show (k + k2 - 1) * 3 = k * 3 + (k2 - 1) * 3 by omega] at y0 y1 y2
              clear eX eY
              have hskip := hide (fun hk => hI.skip (m := k + k2) hk)
              have hkp := hide (fun hk => hI.keep (by rw [unhide hds]; exact hlt2) hk)
              have hset := hide (fun e => hR.set kk e (by omega))
              generalize hX2 : L.toArray[k + k2]! = X at *
              generalize hY2 : L.toArray[k + k2 - 1]! = Y at *
              generalize dk.toList.getD kk ed0 = Z at *
              have hXY : Hid (L.toArray[k + k2]! = X ∧ L.toArray[k + k2 - 1]! = Y) := hide ⟨hX2, hY2⟩
              clear hX2 hY2
              have hgd := guard_ed
              have hne := fun W => neq_ed X Y W
              replace hR := hide hR
              replace hI := hide hI
              by_cases hxy : X = Y
              · subst hxy
                simp only [decide_true, Bool.not_true] at hne
                obtain ⟨xp, xn, xs⟩ := X
                dsimp only at *
                go_wp2
                go_quiet (fail)
                go_wp2
                go_roundg g2
                case measure => omega
                case rel => exact ⟨kk, k2 + 1, dk, by trivial, by go_num, by omega, by omega, by omega, unhide hR, below_drewN hbw _, unhide hskip (keeps_neg (by omega) (by rw [(unhide hXY).1, (unhide hXY).2]))⟩
              · simp only [hxy, decide_false, Bool.not_false] at hne
                have hkee := hide (unhide hkp (keeps_pos (by rw [(unhide hXY).1, (unhide hXY).2]; exact hxy)))
                replace hxy := hide hxy
                obtain ⟨xp, xn, xs⟩ := X
                obtain ⟨zp, zn, zs⟩ := Z
                dsimp only at *
                go_wp2
                go_quiet (fail)
                go_wp2
                go_roundg g2
                case measure => omega
                case rel => exact ⟨kk + 1, k2 + 1, dk.setIfInBounds kk ⟨xp, xn, xs⟩, by go_num, by go_num, by omega, by omega, by omega, by rw [Array.toList_setIfInBounds]; exact RowE.set (w := wr.drewN nq) (unhide hR) kk ⟨xp, xn, xs⟩ (by omega), below_set (below_drewN hbw nq) hb1 ⟨xp, xn, xs⟩, unhide hkee⟩
            · have hlz2 : ¬ (k2 : Int) < ((n - k : Nat) : Int) := by omega
              have hkn2 : k + k2 = n := by omega
              have hcl : ∀ ty, ∃ w', (Builtin.clear_ #[22] ty #[.slice (some ⟨g, kk * 3, none⟩) (n - kk) (cap - kk)]).run Try.prog wr = .ok (.tuple #[]) w' ∧ RowE w' g cap (dk.toList.take kk ++ List.replicate (n - kk) ed0) ∧ wr.grownBy w' (some g) := fun ty => by
                have := hR.clear ty kk (cap - kk) (by omega)
                rw [hdk] at this
                exact this
              have htk := compInv_take hI (by rw [unhide hds]; omega)
              rw [hkn2, unhide hCe] at htk
              have hclen := hI.len
              rw [hkn2, unhide hCe] at hclen
              obtain ⟨w', hc0, hc2, hc3⟩ := hcl 0
              have hc1 : ∀ ty, (Builtin.clear_ #[22] ty #[.slice (some ⟨g, kk * 3, none⟩) (n - kk) (cap - kk)]).run Try.prog wr = .ok (.tuple #[]) w' := fun ty => hc0
              clear hc0
              rw [htk] at hc2
              have hck2 : ¬ cap = kk := by omega
              have hfin : Hid (RowE w' g cap C ∧ Below base w w') := hide ⟨by have := hc2.take C.length; rwa [List.take_left' rfl] at this, hbw.grown hc3 (Nat.le_trans hb2 hbw.size) (fun k hk => by injection hk with hk; omega)⟩
              clear hc2 hc3 hR hI hcl htk
              replace hclen := hide hclen
              go_wp2
              go_ret
              rw [unhide hclen]
              exact ⟨rfl, (unhide hfin).1, (unhide hfin).2⟩
        · simp only [hxy, decide_false] at heq
          have hkp := hide (keeps_pos (d := L.toArray) (m := k) (by rw [unhide hX, unhide hY]; exact hxy))
          replace hxy := hide hxy
          obtain ⟨xp, xn, xs⟩ := X
          obtain ⟨yp, yn, ys⟩ := Y
          dsimp only at *
          have hR' := hide hR
          go_wp2
          go_quiet (fail)
          go_wp2
          go_roundg g'
          case measure => omega
          case rel =>
            refine ⟨k + 1, by go_num, by omega, by omega, by omega, unhide hR', below_drewN hbw _, fun j hj => ?_⟩
            by_cases e : j = k
            · subst e; exact unhide hkp
            · exact unhide hkeep j (by omega)
      · have hlz : ¬ (k : Int) < n := by omega
        obtain rfl : k = n := by omega
        have hcl := hide (unhide hall hkeep)
        replace hR := hide hR
        replace hkeep := hide hkeep
        go_wp2
        go_ret
        rw [unhide hcl, unhide hn]
        exact ⟨rfl, unhide hR, hbw⟩
end Go.Proofs.Ytpjpghigilbfaaa

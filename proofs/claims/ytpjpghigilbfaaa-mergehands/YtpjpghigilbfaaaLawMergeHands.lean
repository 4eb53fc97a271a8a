/-
  The law MergeHands.
-/
import Derived.Test.YtpjpghigilbfaaaHandInv
import Derived.Test.YtpjpghigilbfaaaIntArg
import Derived.Test.YtpjpghigilbfaaaRefMay
import Derived.Test.YtpjpghigilbfaaaMgEq
import Derived.Test.YtpjpghigilbfaaaMgAll
import Derived.Test.YtpjpghigilbfaaaModIx
import Derived.Test.YtpjpghigilbfaaaOrdI
import Derived.Test.YtpjpghigilbfaaaOpRun
import Derived.Deep.DeepCutAuto
import Derived.Deep.AppendLies
namespace Go.Proofs.Ytpjpghigilbfaaa
open Go.RowKit Go.Lib Go.Sort
set_option linter.unusedSimpArgs false
set_option linter.unusedVariables false
theorem rowB_kept {w w' : World} {base size n : Nat} {e : TypeId} {v : Value} {xs : List Value} (h : w.ownsRow base e size v n xs) (hb : Below w.heap.size w w') : w'.ownsRow base e size v n xs := by
  refine ⟨h.1, ?_⟩
  rcases h.2 with h1 | ⟨g, cap, cur, hv, hg, hh, h2⟩
  · exact .inl h1
  · exact .inr ⟨g, cap, cur, hv, hg, by rw [hb.block g (Array.getElem?_eq_some_iff.1 hh).1]; exact hh, h2⟩
theorem run_build_ed (W : World) (ev : Operand → Value) (d : Option Nat) (x : Operand) (t : TypeId) (p : String) (af : Array Edge) (gd : Option (Nat × Bool)) (ep en : Int) (es : ByteArray) (hx : ev x = .agg #[.int .i64 ep, .int .i64 en, .string es]) :
    (execOp ev { dst := d, op := .buildSlice 22 1 #[(0, x)], type := t, pos := p, after := af, guard := gd }).run Try.prog W = .ok (.value (.slice (some ⟨W.heap.size, 0, none⟩) 1 1)) (W.alloc (.cells #[.int .i64 ep, .int .i64 en, .string es] 29 (0, 0))) := by
  go_simp
theorem cutE_le12 (L : List Ed) : (cutE L).length ≤ 12 := by rw [cutE, cutL_len]; omega
theorem cutE_rng {L : List Ed} (h : ∀ e ∈ L, e.wf) : ∀ e ∈ cutE L, I64 e := fun e he => by
  obtain ⟨d, hd, rfl⟩ := List.mem_map.1 he
  have hw := h d (List.mem_of_mem_take hd)
  exact ⟨bounds_i64 hw.1, bounds_i64 hw.2.1⟩
set_option maxHeartbeats 8000000 in
set_option maxRecDepth 100000 in
theorem mergeHands_shell (a0 : ByteArray) (a1 : Value) (L1 : List Ed) (a2 : Value) (L2 : List Value) (w : World) (w0 : a0.size ≤ maxLen) (w1 : Eds w a1 L1 ∧ ∀ e ∈ L1, e.wf) (w2 : Row1 w a2 L2 ∧ ∀ x ∈ L2, ∃ z, x = .int .i64 z ∧ (Lit.int .i64 z).wf = true) :
    Calls Try.prog 5 #[.string a0, a1, a2] w fun e w' => e = .returned (.bool true) ∧ Below w.heap.size w w' := by
  obtain ⟨hE, hwf⟩ := w1
  obtain ⟨hB, hbl⟩ := w2
  have HB := hide (begun_any w)
  unfold maxLen at w0
  obtain ⟨a', c', rfl, k1, k2, k3⟩ := id hB
  unfold maxLen at k2
  obtain ⟨n', hn'⟩ : ∃ n, L2.length = n := ⟨_, rfl⟩
  rw [hn'] at k1 k3 hB ⊢
  have hR := cutE_rng hwf
  have hCl := cutE_le12 L1
  replace k3 := hide k3
  replace hB := hide hB
  replace hbl := hide hbl
  replace hR := hide hR
  have hCut := hide (fun W (hW : Below w.heap.size w W) => edCut_any a1 L1 W (hE.below hW) (fun e he => (hwf e he).2.2))
  obtain ⟨p1, n1, q1, rfl⟩ : ∃ p n q, a1 = .slice p n q := by obtain ⟨p, q, h, _⟩ := hE; exact ⟨_, _, _, h⟩
  clear hE hwf
  obtain ⟨L, hL⟩ : ∃ L, cutE L1 = L := ⟨_, rfl⟩
  rw [hL] at hCl hR hCut
  clear hL
  go_enter Try.func5, Try.ntmps5
  go_wp2_with fail
  refine (unhide HB).mono ?_
  rintro e W0 ⟨rfl, hb0⟩
  clear HB
  go_upto_if 18 with fail
  go_cut [0] (fun s0 wx => ∃ t : ByteArray, s0 = .string t ∧ t.size ≤ 100 ∧ W0 = wx)
  case first =>
    by_cases hs : 100 < a0.size
    · have hsz : (100 : Int) < a0.size := by omega
      go_wp2
      go_meet
      case rel => exact ⟨_, rfl, by rw [ByteArray.size_extract]; omega, rfl⟩
    · have hsz : ¬ (100 : Int) < a0.size := by omega
      go_wp2
      go_meet
      case rel => exact ⟨_, rfl, by omega, rfl⟩
  case rest =>
    obtain ⟨t, rfl, ht, rfl⟩ := hcut
    have hC := hide (unhide hCut W0 hb0)
    have hs0 := hb0.size
    replace hb0 := hide hb0
    go_wp2_with fail
    refine (unhide hC).mono ?_
    rintro e W1 ⟨v1, rfl, ho1, hb1⟩
    have hM := hide (rMay_any v1 L t.size W1 (own_eds ho1) (by omega) (by omega) (unhide hR))
    have hbw1 : Below w.heap.size w W1 := (unhide hb0).trans (hb1.mono hs0)
    have hs1 := hbw1.size
    obtain ⟨m, hm⟩ : ∃ m, L.length = m := ⟨_, rfl⟩
    obtain ⟨p1', c1, rfl, hr1⟩ : ∃ p c, v1 = .slice p m c ∧ (0 < m → ∃ g, p = some ⟨g, 0, none⟩ ∧ RowE W1 g c L) := by
      rcases ho1.forms with ⟨rfl, h0⟩ | ⟨g8, c8, rfl, _, h3⟩
      · rw [h0] at hm; exact ⟨none, 0, by rw [← hm]; rfl, fun h => by rw [← hm] at h; simp at h⟩
      · exact ⟨_, c8, by rw [hm], fun _ => ⟨g8, rfl, h3⟩⟩
    replace ho1 := hide ho1
    replace hr1 := hide hr1
    replace hbw1 := hide hbw1
    clear hC hCut hb1
    obtain ⟨M, hMM⟩ : ∃ M, mayB L t.size = M := ⟨_, rfl⟩
    rw [hMM] at hM
    cases M with
    | false =>
      go_wp2_with fail
      refine (unhide hM).mono ?_
      rintro e W2 ⟨rfl, hb2⟩
      go_wp2
      go_ret
      exact ⟨rfl, (unhide hbw1).trans (hb2.mono hs1)⟩
    | true =>
      go_wp2_with fail
      refine (unhide hM).mono ?_
      rintro e W2 ⟨rfl, hb2⟩
      clear hM
      have hbw2 := (unhide hbw1).trans (hb2.mono hs1)
      have hs2 := hbw2.size
      have hbA := below_alloc W2 (.cells #[.slice none 0 0, .slice none 0 0, .slice none 0 0, .slice none 0 0] 43 (0, 0))
      have hH0 := hands_new W2
      have hE2 : Hid (Eds W2 (.slice p1' m c1) L) := hide (own_eds (show OwnE W2 W0.heap.size _ L from rowB_kept (unhide ho1) hb2))
      go_upto_region 10 with fail
      have hbn : Below W2.heap.size W2 _ := hbA
      have hroom0 : m ≤ 12 := by omega
      generalize W2.alloc (.cells #[.slice none 0 0, .slice none 0 0, .slice none 0 0, .slice none 0 0] 43 (0, 0)) = Wn at *
      obtain ⟨bh, hbh⟩ : ∃ bh, W2.heap.size = bh := ⟨_, rfl⟩
      rw [hbh] at hbA hbn hH0 hs2 ⊢
      have hL2 : Hid (0 < m → ∃ g1, p1' = some ⟨g1, 0, none⟩ ∧ g1 < bh ∧ RowE W2 g1 c1 L) := hide (fun h => by
        obtain ⟨g1, e, hr⟩ := unhide hr1 h
        have := (hr.below hb2).lt
        exact ⟨g1, e, by omega, hr.below hb2⟩)
      have hb2w : Hid (Below bh W2 W2) := hide (Below.refl _ _)
      replace hbh := hide hbh
      replace hbw2 := hide hbw2
      have hzm : ((m : Int) - 1) + 1 = m := by omega
      go_wp2
      go_loopg [9, 10] m (fun gf s9 s10 wx => ∃ (z : Int) (vs : Nat → Value) (Hs : Nat → List Ed), s9 = .int .i64 z ∧ z + 1 = gf ∧ gf ≤ m ∧ Hands wx bh vs Hs ∧ Dealt Hs L gf ∧ Below bh W2 wx)
      case atStart => exact ⟨_, _, _, rfl, hzm, Nat.le_refl _, hH0, by rw [← hm]; exact dealt_start L, hbn⟩
      case round =>
        clear hH0 hbn hbA hzm
        obtain ⟨z, vs, Hs, rfl, hz, hgf, hH, hD, hbw⟩ := hrel
        cases gk with
        | zero =>
          obtain rfl : z = -1 := by omega
          have hc0 := hH.1.cell (k := 0) (by omega)
          have hc1 := hH.1.cell (k := 1) (by omega)
          have hc2 := hH.1.cell (k := 2) (by omega)
          have hc3 := hH.1.cell (k := 3) (by omega)
          have hsl : ∀ q, q < 4 → ∃ pa na ca, vs q = .slice pa na ca := fun q hq => by
            rcases (hH.2.1 q hq).forms with ⟨h, _⟩ | ⟨g, cap, h, _⟩ <;> exact ⟨_, _, _, h⟩
          have hEw : Eds wr (.slice p1' m c1) L := (unhide hE2).below (by rw [unhide hbh]; exact hbw)
          have hN1 : ∀ c, Value.slice p1' m c1 = .slice none 0 c → c = 0 := (unhide ho1).notNil
          have h5 := hH.five hEw hN1
          have hon := hands_once hD hMM
          have hb8 : Below bh W2 (wr.alloc (.cells #[vs 0, vs 1, vs 2, vs 3, .slice p1' m c1] 22 (0, 0))) := hbw.alloc (Nat.le_of_lt hH.1.lt) _
          have hfl : [Hs 0, Hs 1, Hs 2, Hs 3, L].flatten.length ≤ 1000 := by
            have q0 := hD.1 0 (by omega)
            have q1 := hD.1 1 (by omega)
            have q2 := hD.1 2 (by omega)
            have q3 := hD.1 3 (by omega)
            simp only [List.flatten_cons, List.flatten_nil, List.append_nil, List.length_append]
            omega
          have hAll := hide (pAll_any _ _ _ h5 (by omega) (by simp) (by
            intro e he
            have h1 : e ∈ once [Hs 0, Hs 1, Hs 2, Hs 3, L].flatten := (once_mem _ e).2 he
            rw [hon] at h1
            exact unhide hR e h1))
          rw [hon, show mayB L maxI = true from mayK_max (by unfold maxI; omega) hMM] at hAll
          have hEq8 := hide (fun (W : World) (hW : Below (wr.alloc (.cells #[vs 0, vs 1, vs 2, vs 3, .slice p1' m c1] 22 (0, 0))).heap.size (wr.alloc (.cells #[vs 0, vs 1, vs 2, vs 3, .slice p1' m c1] 22 (0, 0))) W) => hEw.below (w' := W) ((below_alloc wr (.cells #[vs 0, vs 1, vs 2, vs 3, .slice p1' m c1] 22 (0, 0))).trans (hW.mono (by simp))))
          obtain ⟨pa0, na0, ca0, e0⟩ := hsl 0 (by omega)
          obtain ⟨pa1, na1, ca1, e1⟩ := hsl 1 (by omega)
          obtain ⟨pa2, na2, ca2, e2⟩ := hsl 2 (by omega)
          obtain ⟨pa3, na3, ca3, e3⟩ := hsl 3 (by omega)
          rw [e0] at hc0
          rw [e1] at hc1
          rw [e2] at hc2
          rw [e3] at hc3
          rw [e0, e1, e2, e3] at hAll hb8 hEq8
          clear hsl hEw hN1 h5 hon hfl hH hD e0 e1 e2 e3 hbw
          replace hb8 := hide hb8
          go_wp2_with fail
          refine (unhide hAll).mono ?_
          rintro e W9 ⟨v9, rfl, ho9, hb9⟩
          have hbw9 := hide (((unhide hbw2).trans ((unhide hb8).mono hs2)).trans (hb9.mono (by have := ((unhide hbw2).trans ((unhide hb8).mono hs2)).size; omega)))
          have hE9 : Hid (Calls Try.prog 12 #[v9, .slice p1' m c1] W9 fun e w' => e = .returned (.bool true) ∧ ∃ q, w' = W9.drewN q) := hide ((mlEq_any v9 _ L L W9 (own_eds ho9) (unhide hEq8 W9 hb9) (by omega) (by omega)).mono fun e w' h => ⟨by rw [h.1]; simp, h.2⟩)
          clear hAll hEq8 ho9 hb9 hb8
          go_wp2_with fail
          refine (unhide hE9).mono ?_
          rintro e W10 ⟨rfl, q10, rfl⟩
          go_wp2
          go_ret
          exact ⟨rfl, below_drewN (unhide hbw9) _⟩
        | succ j =>
          obtain rfl : z = (j : Int) := by omega
          obtain ⟨g1, rfl, hg1b, hrow0⟩ := unhide hL2 (by omega)
          have hrow := hrow0.below (by rw [unhide hbh]; exact hbw)
          obtain ⟨x0, x1, x2⟩ := hrow.at j (by omega)
          have hroom := hrow.room
          rw [hm] at hroom
          unfold maxLen at hroom
          have hDs := hide (fun k => hD.step (k := k) (show j < L.length by omega))
          have hlk : ∀ q, q < 4 → (Hs q).length ≤ 12 := fun q hq => by have := hD.1 q hq; omega
          clear hrow hrow0
          obtain ⟨E, hE⟩ : ∃ E, L.getD j ed0 = E := ⟨_, rfl⟩
          rw [hE] at x0 x1 x2 hDs
          obtain ⟨ep, en, es⟩ := E
          dsimp only at x0 x1 x2
          replace hE := hide hE
          replace hD := hide hD
          have hjz : (j : Int) < m := by omega
          have hge : (0 : Int) ≤ j := by omega
          go_upto_if 38 with fail
          go_cut [10] (fun s10 wx => ∃ k : Nat, k < 4 ∧ s10 = .int .i64 k ∧ wr = wx)
          case first =>
            by_cases hin : j < n'
            · have hlz' : (j : Int) < n' := by omega
              obtain ⟨bb, bo, rfl, hbb', hbc'⟩ := unhide k3 (by omega)
              have hcell := hbc' j hin
              obtain ⟨z2, hz2, hzw⟩ := unhide hbl (L2.getD j undef) (by simp [List.getD, show j < L2.length by omega])
              rw [hz2, ← ((unhide hbw2).trans (hbw.mono hs2)).cell (by exact hbb')] at hcell
              obtain ⟨k, hk, hk4⟩ := mod_ix z2 4 (by omega) (by omega)
              obtain ⟨hzl, hzh⟩ := bounds_i64 hzw
              clear hbc'
              go_wp2
              go_meet
              case rel => exact ⟨k, by omega, by rw [← hk], rfl⟩
            · have hlz' : ¬ (j : Int) < n' := by omega
              go_wp2
              go_meet
              case rel => exact ⟨0, by omega, rfl, rfl⟩
          case rest =>
            obtain ⟨k, hk4, rfl, rfl⟩ := hcut
            have hlkk := hlk k hk4
            have hk4z : (k : Int) < 4 := by omega
            go_upto_region 16 with fail
            refine wp_region_D (fun w' => ArrAt w' bh vs ∧ EdAt w' g1 (j * 3) ⟨ep, en, es⟩) (fun q => [11].contains q) (by kernel_rfl) ?_
            have hS : ArrAt wr.drew bh vs ∧ EdAt wr.drew g1 (j * 3) ⟨ep, en, es⟩ := ⟨hH.1, x0, x1, x2⟩
            have hk0 : wr.grownBy wr.drew none := ⟨rfl, rfl, rfl, Nat.le_refl _, fun _ _ _ => rfl⟩
            have hHk : OwnE wr.drew (bh + 1) (vs k) (Hs k) := hH.2.1 k hk4
            have hbhl : bh + 1 ≤ wr.drew.heap.size := hH.1.lt
            have hvk : ∃ pa na ca, vs k = .slice pa na ca := by
              rcases hHk.forms with ⟨h, _⟩ | ⟨g, cap, h, _⟩ <;> exact ⟨_, _, _, h⟩
            generalize World.drew wr = WD at hS hk0 hHk hbhl ⊢
            replace hH := hide hH
            clear x0 x1 x2
            refine wpAnyD_takeC (i := 0) (v := .int .i64 k) [11] (fun _ => rfl) rfl (by kernel_rfl) 2 (by kernel_rfl) rfl (by kernel_rfl) (by kernel_rfl) (by kernel_rfl) (fun _ _ _ h => h) (Or.inl ⟨by kernel_rfl, ?_⟩) hS ?_
            · intro w hSw
              go_simp
            try simp only [List.getElem_toArray, List.getElem_cons_succ, List.getElem_cons_zero, Act.put, List.setIfInBounds_toArray, List.set_cons_zero, List.set_cons_succ]
            refine wpAnyD_takeC (i := 1) (v := .int .i64 k) [11] (fun _ => rfl) rfl (by kernel_rfl) 2 (by kernel_rfl) rfl (by kernel_rfl) (by kernel_rfl) (by kernel_rfl) (fun _ _ _ h => h) (Or.inl ⟨by kernel_rfl, ?_⟩) hS ?_
            · intro w hSw
              go_simp
            try simp only [List.getElem_toArray, List.getElem_cons_succ, List.getElem_cons_zero, Act.put, List.setIfInBounds_toArray, List.set_cons_zero, List.set_cons_succ]
            refine wpAnyD_takeC (i := 2) (v := .pointer (some ⟨bh, k, none⟩)) [11] (fun _ => rfl) rfl (by kernel_rfl) 2 (by kernel_rfl) rfl (by kernel_rfl) (by kernel_rfl) (by kernel_rfl) (fun _ _ _ h => h) (Or.inl ⟨by kernel_rfl, ?_⟩) hS ?_
            · intro w hSw
              go_simp
            try simp only [List.getElem_toArray, List.getElem_cons_succ, List.getElem_cons_zero, Act.put, List.setIfInBounds_toArray, List.set_cons_zero, List.set_cons_succ]
            refine wpAnyD_takeC (i := 3) (v := vs k) [11] (fun _ => rfl) rfl (by kernel_rfl) 2 (by kernel_rfl) rfl (by kernel_rfl) (by kernel_rfl) (by kernel_rfl) (fun _ _ _ h => h) (Or.inl ⟨by kernel_rfl, ?_⟩) hS ?_
            · intro w hSw
              have hc := hSw.1.cell hk4
              obtain ⟨pa, na, ca, hvk⟩ := hvk
              rw [hvk] at hc ⊢
              go_simp
            try simp only [List.getElem_toArray, List.getElem_cons_succ, List.getElem_cons_zero, Act.put, List.setIfInBounds_toArray, List.set_cons_zero, List.set_cons_succ]
            refine wpAnyD_takeC (i := 4) (v := .slice (some ⟨g1, 0, none⟩) m c1) [11] (fun _ => rfl) rfl (by kernel_rfl) 2 (by kernel_rfl) rfl (by kernel_rfl) (by kernel_rfl) (by kernel_rfl) (fun _ _ _ h => h) (Or.inl ⟨by kernel_rfl, ?_⟩) hS ?_
            · intro w hSw
              go_simp
            try simp only [List.getElem_toArray, List.getElem_cons_succ, List.getElem_cons_zero, Act.put, List.setIfInBounds_toArray, List.set_cons_zero, List.set_cons_succ]
            refine wpAnyD_takeC (i := 5) (v := .int .i64 j) [11] (fun _ => rfl) rfl (by kernel_rfl) 2 (by kernel_rfl) rfl (by kernel_rfl) (by kernel_rfl) (by kernel_rfl) (fun _ _ _ h => h) (Or.inl ⟨by kernel_rfl, ?_⟩) hS ?_
            · intro w hSw
              go_simp
            try simp only [List.getElem_toArray, List.getElem_cons_succ, List.getElem_cons_zero, Act.put, List.setIfInBounds_toArray, List.set_cons_zero, List.set_cons_succ]
            refine wpAnyD_takeC (i := 6) (v := .pointer (some ⟨g1, j * 3, none⟩)) [11] (fun _ => rfl) rfl (by kernel_rfl) 2 (by kernel_rfl) rfl (by kernel_rfl) (by kernel_rfl) (by kernel_rfl) (fun _ _ _ h => h) (Or.inl ⟨by kernel_rfl, ?_⟩) hS ?_
            · intro w hSw
              go_simp
            try simp only [List.getElem_toArray, List.getElem_cons_succ, List.getElem_cons_zero, Act.put, List.setIfInBounds_toArray, List.set_cons_zero, List.set_cons_succ]
            refine wpAnyD_takeC (i := 7) (v := .agg #[.int .i64 ep, .int .i64 en, .string es]) [11] (fun _ => rfl) rfl (by kernel_rfl) 2 (by kernel_rfl) rfl (by kernel_rfl) (by kernel_rfl) (by kernel_rfl) (fun _ _ _ h => h) (Or.inl ⟨by kernel_rfl, ?_⟩) hS ?_
            · intro w hSw
              obtain ⟨y0, y1, y2⟩ := hSw.2
              dsimp only at y0 y1 y2
              go_simp
            try simp only [List.getElem_toArray, List.getElem_cons_succ, List.getElem_cons_zero, Act.put, List.setIfInBounds_toArray, List.set_cons_zero, List.set_cons_succ]
            refine wpAnyD_one (i := 8) rfl (by kernel_rfl) (fun K hK => ?_)
            rw [if_pos (by kernel_rfl)]
            refine oper_of_run (run_build_ed WD _ _ _ _ _ _ _ ep en es rfl) ?_
            have hk1 : wr.grownBy (WD.alloc (.cells #[.int .i64 ep, .int .i64 en, .string es] 29 (0, 0))) none := hk0.trans1 (grown_alloc WD _ none)
            have hS1 : ArrAt (WD.alloc (.cells #[.int .i64 ep, .int .i64 en, .string es] 29 (0, 0))) bh vs ∧ EdAt (WD.alloc (.cells #[.int .i64 ep, .int .i64 en, .string es] 29 (0, 0))) g1 (j * 3) ⟨ep, en, es⟩ :=
              ⟨hS.1.kept (grown_alloc WD _ none) (by simp), hS.2.below (by have := hk0.size; omega) (below_alloc WD _)⟩
            have ho1 : OwnE (WD.alloc (.cells #[.int .i64 ep, .int .i64 en, .string es] 29 (0, 0))) (bh + 1) (vs k) (Hs k) := World.ownsRow.alloc hHk _
            have hn1 := new_ed WD ⟨ep, en, es⟩ (0, 0)
            have hs1' : (WD.alloc (.cells #[.int .i64 ep, .int .i64 en, .string es] 29 (0, 0))).heap.size = WD.heap.size + 1 := by simp
            dsimp only at hn1
            refine hK _ _ (fun _ => hS1) ?_
            clear hK K hS hHk hk0
            generalize WD.alloc (.cells #[.int .i64 ep, .int .i64 en, .string es] 29 (0, 0)) = W5 at *
            generalize WD.heap.size = z at *
            try simp only [List.getElem_toArray, List.getElem_cons_succ, List.getElem_cons_zero, Act.put, List.setIfInBounds_toArray, List.set_cons_zero, List.set_cons_succ]
            refine wpAnyD_one (i := 9) rfl (by kernel_rfl) (fun K hK => ?_)
            rw [if_pos (by kernel_rfl)]
            obtain ⟨i0, hi, hz0, hz1, hz2⟩ := info_parts Try.info29
            refine wp_append_lies W5 _ _ 22 rfl (bh + 1) 29 i0 _ 3 32 Try.underlying22 hi hz0 hz1 hz2 rfl (by decide) (vs k) (Hs k).length (edsC (Hs k)) rfl ho1 ⟨z, 0, none⟩ 1 1 (Ed.cells ⟨ep, en, es⟩) rfl rfl hn1 (one_ed _) (by omega) (by unfold maxLen; omega) (by omega) (by omega) _ rfl ?_
            intro g cap W6 hown6 hg6 hat6 hlt6
            have ho6 : OwnE W6 (bh + 1) (.slice (some ⟨g, 0, none⟩) ((Hs k).length + 1) cap) (Hs k ++ [⟨ep, en, es⟩]) := by
              unfold OwnE
              rw [edsC_snoc, List.length_append]
              exact hown6
            have kne : (vs k).ownBlock ≠ some bh := fun hh => by have := (World.ownsRow.lt ho1 bh hh).1; omega
            have hS6a : ArrAt W6 bh vs := hS1.1.kept hg6 kne
            have hS6b : EdAt W6 g1 (j * 3) ⟨ep, en, es⟩ := by
              have hb6 : Below (bh + 1) W5 W6 := (Below.refl _ _).grown hg6 (by omega) (fun q hq => (World.ownsRow.lt ho1 q hq).1)
              obtain ⟨y0, y1, y2⟩ := hS1.2
              exact ⟨by rw [hb6.cell (show g1 < bh + 1 by omega)]; exact y0, by rw [hb6.cell (show g1 < bh + 1 by omega)]; exact y1, by rw [hb6.cell (show g1 < bh + 1 by omega)]; exact y2⟩
            have hfin := hide ((unhide hH).step hk1 hk4 hg6 ho6 hat6)
            have hbw6 : Hid (Below bh W2 (W6.setCell ⟨bh, k, none⟩ (.slice (some ⟨g, 0, none⟩) ((Hs k).length + 1) cap))) := hide ((((hbw.grown hk1 (Nat.le_of_lt (unhide hH).1.lt) (fun q hq => by cases hq)).grown hg6 (by omega) (fun q hq => by have := (World.ownsRow.lt ho1 q hq).1; omega))).setCell (p := ⟨bh, k, none⟩) (Nat.le_refl _) _)
            have hf6 : W6.frozen? ⟨bh, k, none⟩ = false := Joins.unfrozen_of_block hS6a k
            have hc6 := hS6a.cell hk4
            have hS := And.intro hS6a hS6b
            refine hK _ _ (fun _ => hS) ?_
            clear hK K hown6 ho6 hg6 hat6 hS1 ho1 hn1 hS6a hS6b
            try simp only [List.getElem_toArray, List.getElem_cons_succ, List.getElem_cons_zero, Act.put, List.setIfInBounds_toArray, List.set_cons_zero, List.set_cons_succ]
            refine wpAnyD_takeC (i := 10) (v := .pointer (some ⟨bh, k, none⟩)) [11] (fun _ => rfl) rfl (by kernel_rfl) 2 (by kernel_rfl) rfl (by kernel_rfl) (by kernel_rfl) (by kernel_rfl) (fun _ _ _ h => h) (Or.inl ⟨by kernel_rfl, ?_⟩) hS ?_
            · intro w hSw
              go_simp
            try simp only [List.getElem_toArray, List.getElem_cons_succ, List.getElem_cons_zero, Act.put, List.setIfInBounds_toArray, List.set_cons_zero, List.set_cons_succ]
            refine wpAnyD_one (i := 11) rfl (by kernel_rfl) (fun K hK => ?_)
            replace hK := hide hK
            go_simp
            refine unhide hK _ _ (fun h => by cases h) ?_
            clear hK K hS hf6 hc6
            generalize W6.setCell ⟨bh, k, none⟩ (.slice (some ⟨g, 0, none⟩) ((Hs k).length + 1) cap) = W7 at *
            refine wpAnyD_done (by kernel_rfl) ?_ _
            have hDk := hide (unhide hDs k)
            go_wp2
            go_roundg j
            case measure => omega
            case rel => exact ⟨(j : Int) - 1, _, _, by go_num, by omega, by omega, unhide hfin, unhide hDk, unhide hbw6⟩
end Go.Proofs.Ytpjpghigilbfaaa

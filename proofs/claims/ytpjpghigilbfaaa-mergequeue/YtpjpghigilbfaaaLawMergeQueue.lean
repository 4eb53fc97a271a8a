/-
  The law MergeQueue.
-/
import Derived.Test.YtpjpghigilbfaaaQuInv
import Derived.Test.YtpjpghigilbfaaaBoolArg
import Derived.Test.YtpjpghigilbfaaaEdCut
import Derived.Test.YtpjpghigilbfaaaMgEq
import Derived.Test.YtpjpghigilbfaaaWrap
import Derived.Test.YtpjpghigilbfaaaOpRun
import Derived.Test.YtpjpghigilbfaaaOrdI
import Derived.Deep.DeepCutAuto
import Derived.Deep.RegionHeld
namespace Go.Proofs.Ytpjpghigilbfaaa
open Go.RowKit Go.Lib Go.Sort
set_option linter.unusedSimpArgs false
set_option linter.unusedVariables false
theorem wp_append_eds (w : World) {o : Oper} {a : Act} {K : Act → World → Prop} {Q : Exit → Act → World → Prop} (s x : Operand)
    (ho : o.op = .call { callee := .builtin .append, args := #[s, x], argTypes := #[22, 22] })
    (base : Nat) (v : Value) (L : List Ed) (hs : a.eval s = v) (hown : OwnE w base v L)
    (vx : Value) (M : List Ed) (hx : a.eval x = vx) (hB : Eds w vx M) (hN : ∀ c, vx = .slice none 0 c → c = 0)
    (h47 : L.length + M.length ≤ 1000000) (hbase : base ≤ w.heap.size)
    (h : ∀ v' w', OwnE w' base v' (L ++ M) → w.grownBy w' v.ownBlock → K (a.put o.dst v') w') : o.wp Try.prog a w K Q := by
  obtain ⟨v', w', hr, h2, h3⟩ := run_append_eds w base o.type v L hown vx M hB hN h47 hbase
  unfold Oper.wp execOp
  simp only [ho, resolve, invoke, builtin, Sem.run_bind, Sem.run_pure, Result.andThen_ok, List.map_toArray, List.map_cons, List.map_nil, hs, hx, hr]
  exact h v' w' h2 h3
theorem run_build_ed (W : World) (ev : Operand → Value) (d : Option Nat) (x : Operand) (t : TypeId) (p : String) (af : Array Edge) (gd : Option (Nat × Bool)) (ep en : Int) (es : ByteArray) (hx : ev x = .agg #[.int .i64 ep, .int .i64 en, .string es]) :
    (execOp ev { dst := d, op := .buildSlice 22 1 #[(0, x)], type := t, pos := p, after := af, guard := gd }).run Try.prog W = .ok (.value (.slice (some ⟨W.heap.size, 0, none⟩) 1 1)) (W.alloc (.cells #[.int .i64 ep, .int .i64 en, .string es] 29 (0, 0))) := by
  go_simp
theorem cf_mlEq (us : Array Value) (W : World) : Sem.run Try.prog (callFunc 12 us) W = .ok (.enter 12 us) W := by kernel_rfl
theorem cf_mlSorted (us : Array Value) (W : World) : Sem.run Try.prog (callFunc 10 us) W = .ok (.enter 10 us) W := by kernel_rfl
theorem eds_sub {w : World} {g off c n : Nat} {L : List Ed} (h : Eds w (.slice (some ⟨g, off, none⟩) n c) L) (i c' : Nat) (hi : i < L.length) (hc : 1 ≤ c') (hc2 : c' ≤ maxLen) : Eds w (.slice (some ⟨g, off + i * 3, none⟩) 1 c') [L.getD i ed0] := by
  obtain ⟨a, c0, h1, h2, h3, h4⟩ := h
  obtain ⟨g', off', e, hg, hat⟩ := h4 (by omega)
  injection h1 with h1
  rw [e] at h1
  injection h1 with h1
  injection h1 with h1 h5
  subst h1 h5
  exact ⟨_, c', rfl, hc, hc2, fun _ => ⟨g, off + i * 3, rfl, hg, fun j hj => by
    obtain rfl : j = 0 := by simp at hj; omega
    exact hat i hi⟩⟩
set_option maxHeartbeats 8000000 in
set_option maxRecDepth 100000 in
theorem mergeQueue_shell (a0 : Value) (L0 : List Ed) (a1 : Value) (L1 : List Value) (w : World) (w0 : Eds w a0 L0 ∧ ∀ e ∈ L0, e.wf) (w1 : Row1 w a1 L1 ∧ ∀ x ∈ L1, ∃ b, x = .bool b) :
    Calls Try.prog 3 #[a0, a1] w fun e w' => e = .returned (.bool true) ∧ Below w.heap.size w w' := by
  obtain ⟨hE, hwf⟩ := w0
  obtain ⟨hB, hbl⟩ := w1
  have HB := hide (begun_any w)
  obtain ⟨a, c, rfl, h1, h2, h3⟩ := id hE
  obtain ⟨a', c', rfl, k1, k2, k3⟩ := id hB
  unfold maxLen at h2 k2
  obtain ⟨n, hn⟩ : ∃ n, L0.length = n := ⟨_, rfl⟩
  obtain ⟨n', hn'⟩ : ∃ n, L1.length = n := ⟨_, rfl⟩
  rw [hn] at h1 h3 hE ⊢
  rw [hn'] at k1 k3 hB ⊢
  replace h3 := hide h3
  replace k3 := hide k3
  replace hE := hide hE
  replace hB := hide hB
  replace hwf := hide hwf
  replace hbl := hide hbl
  go_enter Try.func3, Try.ntmps3
  go_wp2_with fail
  refine (unhide HB).mono ?_
  rintro e W0 ⟨rfl, hb0⟩
  clear HB
  go_upto_region 6 with fail
  iterate 7 go_step
  have hq0 := QI.new W0
  have hbq : Below w.heap.size w (W0.alloc (.cells #[.slice none 0 0] 27 (0, 0))) := hb0.alloc hb0.size _
  have hbb := hb0.size
  generalize W0.alloc (.cells #[.slice none 0 0] 27 (0, 0)) = Wq at *
  generalize W0.heap.size = b at *
  clear hb0
  go_cut [7] (fun s7 wx => ∃ Wl, QI wx b s7 Wl Wl ∧ Srt Wl ∧ Wl.length ≤ 40 ∧ Below w.heap.size w wx)
  case first =>
    go_wp2
    go_loopg [7, 8] 40 (fun gf s7 s8 wx => ∃ (i : Nat) (Wl : List Ed), s8 = .int .i64 i ∧ i + gf = 40 ∧ i ≤ n ∧ QI wx b s7 Wl Wl ∧ Srt Wl ∧ Wl.length ≤ i ∧ Below w.heap.size w wx)
    case atStart => exact ⟨0, [], rfl, by omega, by omega, hq0, List.Pairwise.nil, Nat.le_refl _, hbq⟩
    case round =>
      clear hq0 hbq
      obtain ⟨i, Wl, rfl, hi, hin, hQ, hS, hWl, hbw⟩ := hrel
      by_cases hlt : i < n ∧ i < 40
      · obtain ⟨hlt, hl40⟩ := hlt
        have hlz : (i : Int) < n := by omega
        have hlw : (i : Int) < 40 := by omega
        have hwp1 : IntKind.i64.wrap ((i : Int) + 1) = ((i + 1 : Nat) : Int) := by rw [wrapI _ (by omega) (by omega)]; omega
        have hi1 : i + 1 ≤ n := by omega
        obtain ⟨g', rfl⟩ : ∃ g', gk = g' + 1 := ⟨gk - 1, by omega⟩
        obtain ⟨g, off, rfl, hg, hc⟩ := unhide h3 (by omega)
        have hsub := eds_sub ((unhide hE).below hbw) i (c - i) (by omega) (by omega) (by unfold maxLen; omega)
        have hck : ¬ c = i := by omega
        have hmem : L0.getD i ed0 ∈ L0 := by simp [List.getD, show i < L0.length by omega]
        have hwi := unhide hwf _ hmem
        have hCut := hide (edCut_any _ _ wr hsub (by intro e he; rw [List.mem_singleton] at he; subst he; exact hwi.2.2))
        rw [show cutE [L0.getD i ed0] = [cutOne (L0.getD i ed0)] from rfl] at hCut
        clear hc hsub hmem
        generalize cutOne (L0.getD i ed0) = E at *
        have hbs := hbw.size
        replace hQ := hide hQ
        replace hS := hide hS
        replace hbw := hide hbw
        clear hwi
        go_wp2_with fail
        refine (unhide hCut).mono ?_
        rintro e W1 ⟨v9, rfl, ho9, hb1⟩
        obtain ⟨g9, c9, rfl, hr9⟩ : ∃ g9 c9, v9 = .slice (some ⟨g9, 0, none⟩) 1 c9 ∧ RowE W1 g9 c9 [E] := by
          rcases ho9.forms with ⟨_, h0⟩ | ⟨g9, c9, h1, _, h3⟩
          · cases h0
          · exact ⟨g9, c9, h1, h3⟩
        obtain ⟨x0, x1, x2⟩ := hr9.at 0 (by simp)
        simp only [List.getD_cons_zero, Nat.zero_mul] at x0 x1 x2
        have hroom9 := hr9.room
        simp only [List.length_cons, List.length_nil] at hroom9
        unfold maxLen at hroom9
        clear ho9 hr9
        have hbA := below_alloc W1 (.cells #[.int .i64 E.p, .int .i64 E.n, .string E.s] 29 (0, 0))
        have hAdd := hide (qiAdd_any b _ Wl Wl E W1 _ ((unhide hQ).below hb1) hbA (by omega))
        have hbw2 : Below w.heap.size w (W1.alloc (.cells #[.int .i64 E.p, .int .i64 E.n, .string E.s] 29 (0, 0))) := ((unhide hbw).trans (hb1.mono hbs)).alloc (by have := hb1.size; omega) _
        have hlt1 : b < W1.heap.size := ((unhide hQ).below hb1).lt
        have hwl1 : w.heap.size ≤ W1.heap.size := by have := hb1.size; omega
        replace hbw2 := hide hbw2
        obtain ⟨ep, en, es⟩ := E
        dsimp only at *
        have b0 : (W1.alloc (.cells #[.int .i64 ep, .int .i64 en, .string es] 29 (0, 0))).cell? ⟨W1.heap.size, 0, none⟩ = some (.int .i64 ep) := cell_alloc_at W1 _ 29 0 (by simp)
        have b1 : (W1.alloc (.cells #[.int .i64 ep, .int .i64 en, .string es] 29 (0, 0))).cell? ⟨W1.heap.size, 1, none⟩ = some (.int .i64 en) := cell_alloc_at W1 _ 29 1 (by simp)
        have b2 : (W1.alloc (.cells #[.int .i64 ep, .int .i64 en, .string es] 29 (0, 0))).cell? ⟨W1.heap.size, 2, none⟩ = some (.string es) := cell_alloc_at W1 _ 29 2 (by simp)
        have hgb1 : W1.heap.size < (W1.alloc (.cells #[.int .i64 ep, .int .i64 en, .string es] 29 (0, 0))).heap.size := by simp
        replace b0 := hide b0
        replace b1 := hide b1
        replace b2 := hide b2
        replace hgb1 := hide hgb1
        clear hCut hb1 hbA
        go_wp2_with fail
        refine (unhide hAdd).mono ?_
        rintro e W3 ⟨rfl, hQ3, hb3, hk3⟩
        have hheap := hk3 W1.heap.size (Nat.le_refl _) (unhide hgb1)
        have hcb : ∀ o, W3.cell? ⟨W1.heap.size, o, none⟩ = (W1.alloc (.cells #[.int .i64 ep, .int .i64 en, .string es] 29 (0, 0))).cell? ⟨W1.heap.size, o, none⟩ := fun o => by unfold World.cell?; dsimp only; rw [hheap]
        have c0 := (hcb 0).trans (unhide b0)
        have c1 := (hcb 1).trans (unhide b1)
        have c2 := (hcb 2).trans (unhide b2)
        have hg3 : W1.heap.size < W3.heap.size := Nat.lt_of_lt_of_le (unhide hgb1) hb3.size
        have hbw3 : Below w.heap.size w W3 := (unhide hbw2).trans (hb3.mono hbb)
        clear hk3 hheap hcb b0 b1 b2 hgb1 hAdd hb3 hbw2 x0 x1 x2 hroom9
        generalize W1.heap.size = gb at *
        go_upto_region 11 with fail
        replace hQ3 := hide hQ3
        replace hbw3 := hide hbw3
        have hEd := (unhide hQ3).eds
        have hNN := (unhide hQ3).notNil
        go_cut [7] (fun s7 wx => QI wx b s7 (srt (Wl ++ [⟨ep, en, es⟩])) (⟨ep, en, es⟩ :: Wl) ∧ Below w.heap.size w wx)
        case first =>
          have hS : Below W3.heap.size W3 W3.drew := (Below.refl _ _).drew
          refine wp_region_held_drew (S := fun w' => Below W3.heap.size W3 w') (by kernel_rfl) hS (fun _ => ?_)
          generalize World.drew W3 = WD at hS ⊢
          refine wpAnyH_take (i := 0) (v := u7) rfl (by kernel_rfl) (by kernel_rfl) (by kernel_rfl) (fun _ _ _ h => h) (Or.inl ⟨by kernel_rfl, ?_⟩) hS ?_

          · intro w hSw; go_simp
          try simp only [List.getElem_toArray, List.getElem_cons_succ, List.getElem_cons_zero, Act.put, List.setIfInBounds_toArray, List.set_cons_zero, List.set_cons_succ]
          refine wpAnyH_take (i := 2) (v := .agg #[.int .i64 ep, .int .i64 en, .string es]) rfl (by kernel_rfl) (by kernel_rfl) (by kernel_rfl) (fun _ _ _ h => h) (Or.inl ⟨by kernel_rfl, ?_⟩) hS ?_
          · intro w hSw
            have e0 := (hSw.cell (p := ⟨gb, 0, none⟩) hg3).trans c0
            have e1 := (hSw.cell (p := ⟨gb, 1, none⟩) hg3).trans c1
            have e2 := (hSw.cell (p := ⟨gb, 2, none⟩) hg3).trans c2
            clear c0 c1 c2
            go_simp
          try simp only [List.getElem_toArray, List.getElem_cons_succ, List.getElem_cons_zero, Act.put, List.setIfInBounds_toArray, List.set_cons_zero, List.set_cons_succ]
          refine wpAnyH_ready (rs := [1, 3]) (by kernel_rfl) (by decide) ?_
          refine AllReadyH.cons rfl (fun K' hK => ?_) (AllReadyH.cons rfl (fun K' hK => ?_) AllReadyH.nil)
          · rw [if_pos (by kernel_rfl)]
            refine wp_append_eds WD _ _ rfl W3.heap.size _ [] rfl (ownE_nil _ _) _ Wl rfl (hEd.below hS) hNN (by simp; omega) hS.size ?_
            intro v40 W4 ho4 hg4
            have hS4 : Below W3.heap.size W3 W4 := hS.grown hg4 hS.size (fun k hk => by cases hk)
            refine hK.out _ _ hS4 (fun _ => ?_)
            clear hK K'
            try simp only [List.getElem_toArray, List.getElem_cons_succ, List.getElem_cons_zero, Act.put, List.setIfInBounds_toArray, List.set_cons_zero, List.set_cons_succ]
            refine wpAnyH_ready (rs := [3]) (by kernel_rfl) (by decide) ?_
            refine AllReadyH.cons rfl (fun K' hK => ?_) AllReadyH.nil
            rw [if_pos (by kernel_rfl)]
            refine oper_of_run (run_build_ed W4 _ _ _ _ _ _ _ ep en es rfl) ?_
            replace hK := hide hK
            have hE5 := eds_one W4 ⟨ep, en, es⟩ (0, 0)
            have hN5 : ∀ c, Value.slice (some ⟨W4.heap.size, 0, none⟩) 1 1 = .slice none 0 c → c = 0 := fun c h => by injection h with h; cases h
            have ho5 := World.ownsRow.alloc (e := 29) ho4 (.cells #[.int .i64 ep, .int .i64 en, .string es] 29 (0, 0))
            have hS5 : Below W3.heap.size W3 (W4.alloc (.cells #[.int .i64 ep, .int .i64 en, .string es] 29 (0, 0))) := hS4.alloc hS4.size _
            rw [List.nil_append] at ho5
            refine (unhide hK).out _ _ hS5 (fun _ => ?_)
            clear hK K' ho4 hg4
            generalize W4.heap.size = g4 at *
            generalize W4.alloc (.cells #[.int .i64 ep, .int .i64 en, .string es] 29 (0, 0)) = W5 at *
            try simp only [List.getElem_toArray, List.getElem_cons_succ, List.getElem_cons_zero, Act.put, List.setIfInBounds_toArray, List.set_cons_zero, List.set_cons_succ]
            refine wpAnyH_ready (rs := [4]) (by kernel_rfl) (by decide) ?_
            refine AllReadyH.cons rfl (fun K' hK => ?_) AllReadyH.nil
            rw [if_pos (by kernel_rfl)]
            refine wp_append_eds W5 _ _ rfl W3.heap.size _ Wl rfl ho5 _ [⟨ep, en, es⟩] rfl hE5 hN5 (by simp; omega) hS5.size ?_
            intro v43 W6 ho6 hg6
            have hS6 : Below W3.heap.size W3 W6 := hS5.grown hg6 hS5.size (fun k hk => (World.ownsRow.lt ho5 k hk).1)
            refine hK.out _ _ hS6 (fun _ => ?_)
            clear hK K'
            try simp only [List.getElem_toArray, List.getElem_cons_succ, List.getElem_cons_zero, Act.put, List.setIfInBounds_toArray, List.set_cons_zero, List.set_cons_succ]
            have hSo := hide (sorted_any v43 (Wl ++ [⟨ep, en, es⟩]) W6 (own_eds ho6) (by simp; omega))
            refine wpAnyH_ready (rs := [5]) (by kernel_rfl) (by decide) ?_
            refine AllReadyH.cons rfl (fun K' hK => ?_) AllReadyH.nil
            rw [if_pos (by kernel_rfl)]
            refine oper_call (run_call1 cf_mlSorted) ((unhide hSo).mono ?_)
            rintro e W7 ⟨v44, rfl, ho7, hb7⟩
            have hS7 : Below W3.heap.size W3 W7 := hS6.trans (hb7.mono hS6.size)
            refine ⟨v44, rfl, hK.out _ _ hS7 (fun _ => ?_)⟩
            clear hK K'
            try simp only [List.getElem_toArray, List.getElem_cons_succ, List.getElem_cons_zero, Act.put, List.setIfInBounds_toArray, List.set_cons_zero, List.set_cons_succ]
            refine wpAnyH_ready (rs := [6]) (by kernel_rfl) (by decide) ?_
            refine AllReadyH.cons rfl (fun K' hK => ?_) AllReadyH.nil
            rw [if_pos (by kernel_rfl)]
            refine oper_of_run (v := v44) (w' := W7) rfl ?_
            refine hK.out _ _ hS7 (fun _ => ?_)
            clear hK K'
            try simp only [List.getElem_toArray, List.getElem_cons_succ, List.getElem_cons_zero, Act.put, List.setIfInBounds_toArray, List.set_cons_zero, List.set_cons_succ]
            refine wpAnyH_done (by kernel_rfl) ?_ _
            go_wp2
            go_meet
            case rel => exact ⟨(unhide hQ3).put hS7 (Joins.ownsRow_le ho7 hS6.size), (unhide hbw3).trans (hS7.mono (by have := (unhide hbw3).size; omega))⟩
          · rw [if_pos (by kernel_rfl)]
            refine oper_of_run (run_build_ed WD _ _ _ _ _ _ _ ep en es rfl) ?_
            replace hK := hide hK
            have hE4 := eds_one WD ⟨ep, en, es⟩ (0, 0)
            have hS4 : Below W3.heap.size W3 (WD.alloc (.cells #[.int .i64 ep, .int .i64 en, .string es] 29 (0, 0))) := hS.alloc hS.size _
            have hEd4 : Eds (WD.alloc (.cells #[.int .i64 ep, .int .i64 en, .string es] 29 (0, 0))) _ Wl := hEd.below hS4
            refine (unhide hK).out _ _ hS4 (fun _ => ?_)
            clear hK K'
            generalize WD.heap.size = g4 at *
            generalize WD.alloc (.cells #[.int .i64 ep, .int .i64 en, .string es] 29 (0, 0)) = W4 at *
            try simp only [List.getElem_toArray, List.getElem_cons_succ, List.getElem_cons_zero, Act.put, List.setIfInBounds_toArray, List.set_cons_zero, List.set_cons_succ]
            refine wpAnyH_ready (rs := [1]) (by kernel_rfl) (by decide) ?_
            refine AllReadyH.cons rfl (fun K' hK => ?_) AllReadyH.nil
            rw [if_pos (by kernel_rfl)]
            refine wp_append_eds W4 _ _ rfl W3.heap.size _ [] rfl (ownE_nil _ _) _ Wl rfl hEd4 hNN (by simp; omega) hS4.size ?_
            intro v40 W5 ho5 hg5
            have hS5 : Below W3.heap.size W3 W5 := hS4.grown hg5 hS4.size (fun k hk => by cases hk)
            have hE5 := hE4.below ((Below.refl _ _).grown hg5 (Nat.le_refl _) (fun k hk => by cases hk))
            have hN5 : ∀ c, Value.slice (some ⟨g4, 0, none⟩) 1 1 = .slice none 0 c → c = 0 := fun c h => by injection h with h; cases h
            rw [List.nil_append] at ho5
            refine hK.out _ _ hS5 (fun _ => ?_)
            clear hK K' hE4
            try simp only [List.getElem_toArray, List.getElem_cons_succ, List.getElem_cons_zero, Act.put, List.setIfInBounds_toArray, List.set_cons_zero, List.set_cons_succ]
            refine wpAnyH_ready (rs := [4]) (by kernel_rfl) (by decide) ?_
            refine AllReadyH.cons rfl (fun K' hK => ?_) AllReadyH.nil
            rw [if_pos (by kernel_rfl)]
            refine wp_append_eds W5 _ _ rfl W3.heap.size _ Wl rfl ho5 _ [⟨ep, en, es⟩] rfl hE5 hN5 (by simp; omega) hS5.size ?_
            intro v43 W6 ho6 hg6
            have hS6 : Below W3.heap.size W3 W6 := hS5.grown hg6 hS5.size (fun k hk => (World.ownsRow.lt ho5 k hk).1)
            refine hK.out _ _ hS6 (fun _ => ?_)
            clear hK K'
            try simp only [List.getElem_toArray, List.getElem_cons_succ, List.getElem_cons_zero, Act.put, List.setIfInBounds_toArray, List.set_cons_zero, List.set_cons_succ]
            have hSo := hide (sorted_any v43 (Wl ++ [⟨ep, en, es⟩]) W6 (own_eds ho6) (by simp; omega))
            refine wpAnyH_ready (rs := [5]) (by kernel_rfl) (by decide) ?_
            refine AllReadyH.cons rfl (fun K' hK => ?_) AllReadyH.nil
            rw [if_pos (by kernel_rfl)]
            refine oper_call (run_call1 cf_mlSorted) ((unhide hSo).mono ?_)
            rintro e W7 ⟨v44, rfl, ho7, hb7⟩
            have hS7 : Below W3.heap.size W3 W7 := hS6.trans (hb7.mono hS6.size)
            refine ⟨v44, rfl, hK.out _ _ hS7 (fun _ => ?_)⟩
            clear hK K'
            try simp only [List.getElem_toArray, List.getElem_cons_succ, List.getElem_cons_zero, Act.put, List.setIfInBounds_toArray, List.set_cons_zero, List.set_cons_succ]
            refine wpAnyH_ready (rs := [6]) (by kernel_rfl) (by decide) ?_
            refine AllReadyH.cons rfl (fun K' hK => ?_) AllReadyH.nil
            rw [if_pos (by kernel_rfl)]
            refine oper_of_run (v := v44) (w' := W7) rfl ?_
            refine hK.out _ _ hS7 (fun _ => ?_)
            clear hK K'
            try simp only [List.getElem_toArray, List.getElem_cons_succ, List.getElem_cons_zero, Act.put, List.setIfInBounds_toArray, List.set_cons_zero, List.set_cons_succ]
            refine wpAnyH_done (by kernel_rfl) ?_ _
            go_wp2
            go_meet
            case rel => exact ⟨(unhide hQ3).put hS7 (Joins.ownsRow_le ho7 hS6.size), (unhide hbw3).trans (hS7.mono (by have := (unhide hbw3).size; omega))⟩
        case rest =>
          obtain ⟨hQc, hbc⟩ := hcut
          have hpm : (⟨ep, en, es⟩ :: Wl).Perm (srt (Wl ++ [⟨ep, en, es⟩])) := ((srt_perm _).trans (List.perm_append_comm (l₁ := Wl) (l₂ := [⟨ep, en, es⟩]))).symm
          have hsl : (srt (Wl ++ [⟨ep, en, es⟩])).length = Wl.length + 1 := by rw [srt_len]; simp
          have hss := srt_srt (Wl ++ [⟨ep, en, es⟩])
          replace hQc := hQc.perm hpm
          generalize srt (Wl ++ [⟨ep, en, es⟩]) = Sl at *
          clear hpm hEd hNN hS hQ c0 c1 c2 hg3 hQ3 hbw3
          by_cases hnx : i < n' ∧ L1.getD i undef = .bool true
          · obtain ⟨hin', hLt⟩ := hnx
            have hlz' : (i : Int) < n' := by omega
            obtain ⟨bb, bo, rfl, hbb', hbc'⟩ := unhide k3 (by omega)
            have hcell := hbc' i hin'
            rw [hLt, ← hbc.cell (by exact hbb')] at hcell
            clear hbc'
            obtain ⟨e1, T1, rfl⟩ : ∃ e1 T1, Sl = e1 :: T1 := by
              cases Sl with
              | nil => simp at hsl
              | cons e1 T1 => exact ⟨e1, T1, rfl⟩
            obtain ⟨xp, xn, xs⟩ := e1
            have hT1 : T1.length = Wl.length := by simpa using hsl
            have hN := hide (qiNext_any b _ (⟨xp, xn, xs⟩ :: T1) T1 ⟨xp, xn, xs⟩ wc hQc hss (by omega))
            have hsT := hide (List.pairwise_cons.1 hss).2
            replace hQc := hide hQc
            replace hss := hide hss
            have hbs' := hbc.size
            replace hbc := hide hbc
            clear hsl
            go_wp2_with fail
            refine (unhide hN).mono ?_
            rintro e W4 ⟨rfl, hQ4, hb4⟩
            have hbw4 : Hid (Below w.heap.size w W4) := hide ((unhide hbc).trans (hb4.mono hbb))
            clear hN hb4 hcell hLt
            obtain ⟨g7, off7, c7, rfl, hc7, hc72, hg7, hg7b, hat7, hsub7, htail⟩ := QI.cons hQ4
            have hbx : Below W4.heap.size W4 (W4.alloc (.cells #[.int .i64 xp, .int .i64 xn, .string xs] 29 (0, 0))) := below_alloc _ _
            have hsub := hide (hsub7.below hbx)
            have d0 : (W4.alloc (.cells #[.int .i64 xp, .int .i64 xn, .string xs] 29 (0, 0))).cell? ⟨W4.heap.size, 0, none⟩ = some (.int .i64 xp) := cell_alloc_at W4 _ 29 0 (by simp)
            have d1 : (W4.alloc (.cells #[.int .i64 xp, .int .i64 xn, .string xs] 29 (0, 0))).cell? ⟨W4.heap.size, 1, none⟩ = some (.int .i64 xn) := cell_alloc_at W4 _ 29 1 (by simp)
            have d2 : (W4.alloc (.cells #[.int .i64 xp, .int .i64 xn, .string xs] 29 (0, 0))).cell? ⟨W4.heap.size, 2, none⟩ = some (.string xs) := cell_alloc_at W4 _ 29 2 (by simp)
            have hgb : W4.heap.size < (W4.alloc (.cells #[.int .i64 xp, .int .i64 xn, .string xs] 29 (0, 0))).heap.size := by simp
            have hbw5 := hide ((unhide hbw4).alloc (unhide hbw4).size (.cells #[.int .i64 xp, .int .i64 xn, .string xs] 29 (0, 0)))
            unfold maxLen at hc72
            replace htail := hide (fun o' ho' => (htail o' ho').below hbx)
            replace d0 := hide d0
            replace d1 := hide d1
            replace d2 := hide d2
            replace hgb := hide hgb
            clear hat7 hsub7 hg7 hg7b hQ4 hbx
            go_upto_region 14 with fail
            replace d0 := unhide d0
            replace d1 := unhide d1
            replace d2 := unhide d2
            replace hgb := unhide hgb
            generalize W4.alloc (.cells #[.int .i64 xp, .int .i64 xn, .string xs] 29 (0, 0)) = W5 at *
            generalize W4.heap.size = gb at *
            have hS : Below W5.heap.size W5 W5.drew := (Below.refl _ _).drew
            refine wp_region_held_drew (S := fun w' => Below W5.heap.size W5 w') (by kernel_rfl) hS (fun _ => ?_)
            generalize World.drew W5 = WD at hS ⊢
            refine wpAnyH_take (i := 0) (v := .bool true) rfl (by kernel_rfl) (by kernel_rfl) (by kernel_rfl) (fun _ _ _ h => h) (Or.inl ⟨by kernel_rfl, ?_⟩) hS ?_
            · intro w hSw
              go_simp
            try simp only [List.getElem_toArray, List.getElem_cons_succ, List.getElem_cons_zero, Act.put, List.setIfInBounds_toArray, List.set_cons_zero, List.set_cons_succ]
            refine wpAnyH_take (i := 1) (v := .bool false) rfl (by kernel_rfl) (by kernel_rfl) (by kernel_rfl) (fun _ _ _ h => h) (Or.inl ⟨by kernel_rfl, ?_⟩) hS ?_
            · intro w hSw
              go_simp
            try simp only [List.getElem_toArray, List.getElem_cons_succ, List.getElem_cons_zero, Act.put, List.setIfInBounds_toArray, List.set_cons_zero, List.set_cons_succ]
            refine wpAnyH_take (i := 2) (v := .bool false) rfl (by kernel_rfl) (by kernel_rfl) (by kernel_rfl) (fun _ _ _ h => h) (Or.inl ⟨by kernel_rfl, ?_⟩) hS ?_
            · intro w hSw
              go_simp
            try simp only [List.getElem_toArray, List.getElem_cons_succ, List.getElem_cons_zero, Act.put, List.setIfInBounds_toArray, List.set_cons_zero, List.set_cons_succ]
            refine wpAnyH_take (i := 3) (v := .agg #[.int .i64 xp, .int .i64 xn, .string xs]) rfl (by kernel_rfl) (by kernel_rfl) (by kernel_rfl) (fun _ _ _ h => h) (Or.inl ⟨by kernel_rfl, ?_⟩) hS ?_
            · intro w hSw
              have e0 := (hSw.cell (p := ⟨gb, 0, none⟩) hgb).trans d0
              have e1 := (hSw.cell (p := ⟨gb, 1, none⟩) hgb).trans d1
              have e2 := (hSw.cell (p := ⟨gb, 2, none⟩) hgb).trans d2
              clear d0 d1 d2
              go_simp
            try simp only [List.getElem_toArray, List.getElem_cons_succ, List.getElem_cons_zero, Act.put, List.setIfInBounds_toArray, List.set_cons_zero, List.set_cons_succ]
            refine wpAnyH_take (i := 5) (v := .slice (some ⟨g7, off7, none⟩) (T1.length + 1) c7) rfl (by kernel_rfl) (by kernel_rfl) (by kernel_rfl) (fun _ _ _ h => h) (Or.inl ⟨by kernel_rfl, ?_⟩) hS ?_
            · intro w hSw
              go_simp
            try simp only [List.getElem_toArray, List.getElem_cons_succ, List.getElem_cons_zero, Act.put, List.setIfInBounds_toArray, List.set_cons_zero, List.set_cons_succ]
            refine wpAnyH_take (i := 6) (v := .slice (some ⟨g7, off7, none⟩) 1 c7) rfl (by kernel_rfl) (by kernel_rfl) (by kernel_rfl) (fun _ _ _ h => h) (Or.inl ⟨by kernel_rfl, ?_⟩) hS ?_
            · intro w hSw
              have hz7 : ¬ (c7 : Int) < 1 := by omega
              go_simp
            try simp only [List.getElem_toArray, List.getElem_cons_succ, List.getElem_cons_zero, Act.put, List.setIfInBounds_toArray, List.set_cons_zero, List.set_cons_succ]
            refine wpAnyH_ready (rs := [4]) (by kernel_rfl) (by decide) ?_
            refine AllReadyH.cons rfl (fun K' hK => ?_) AllReadyH.nil
            rw [if_pos (by kernel_rfl)]
            refine oper_of_run (run_build_ed WD _ _ _ _ _ _ _ xp xn xs rfl) ?_
            have hE6 := eds_one WD ⟨xp, xn, xs⟩ (0, 0)
            have hS6 : Below W5.heap.size W5 (WD.alloc (.cells #[.int .i64 xp, .int .i64 xn, .string xs] 29 (0, 0))) := hS.alloc hS.size _
            refine hK.out _ _ hS6 (fun _ => ?_)
            clear hK K'
            generalize WD.heap.size = g6 at *
            generalize WD.alloc (.cells #[.int .i64 xp, .int .i64 xn, .string xs] 29 (0, 0)) = W6 at *
            try simp only [List.getElem_toArray, List.getElem_cons_succ, List.getElem_cons_zero, Act.put, List.setIfInBounds_toArray, List.set_cons_zero, List.set_cons_succ]
            refine wpAnyH_ready (rs := [7]) (by kernel_rfl) (by decide) ?_
            refine AllReadyH.cons rfl (fun K' hK => ?_) AllReadyH.nil
            rw [if_pos (by kernel_rfl)]
            refine oper_call (run_call2 cf_mlEq) ((mlEq_any _ _ [⟨xp, xn, xs⟩] [⟨xp, xn, xs⟩] W6 hE6 ((unhide hsub).below hS6) (by simp) (by simp)).mono ?_)
            rintro e W7 ⟨rfl, q7, rfl⟩
            have hS7 : Below W5.heap.size W5 (W6.drewN q7) := below_drewN hS6 q7
            refine ⟨.bool true, by simp, hK.out _ _ hS7 (fun _ => ?_)⟩
            clear hK K'
            generalize W6.drewN q7 = W7 at *
            try simp only [List.getElem_toArray, List.getElem_cons_succ, List.getElem_cons_zero, Act.put, List.setIfInBounds_toArray, List.set_cons_zero, List.set_cons_succ]
            refine wpAnyH_ready (rs := [8]) (by kernel_rfl) (by decide) ?_
            refine AllReadyH.cons rfl (fun K' hK => ?_) AllReadyH.nil
            rw [if_pos (by kernel_rfl)]
            refine oper_of_run (v := .bool false) (w' := W7) rfl ?_
            refine hK.out _ _ hS7 (fun _ => ?_)
            clear hK K'
            try simp only [List.getElem_toArray, List.getElem_cons_succ, List.getElem_cons_zero, Act.put, List.setIfInBounds_toArray, List.set_cons_zero, List.set_cons_succ]
            refine wpAnyH_ready (rs := [9]) (by kernel_rfl) (by decide) ?_
            refine AllReadyH.cons rfl (fun K' hK => ?_) AllReadyH.nil
            rw [if_pos (by kernel_rfl)]
            refine oper_of_run (v := .bool false) (w' := W7) rfl ?_
            refine hK.out _ _ hS7 (fun _ => ?_)
            clear hK K'
            try simp only [List.getElem_toArray, List.getElem_cons_succ, List.getElem_cons_zero, Act.put, List.setIfInBounds_toArray, List.set_cons_zero, List.set_cons_succ]
            refine wpAnyH_done (by kernel_rfl) ?_ _
            replace htail := hide (fun o' ho' => (unhide htail o' ho').below hS7)
            have hbw7 := hide ((unhide hbw5).trans (hS7.mono (unhide hbw5).size))
            clear hS hS6 hS7 hE6 hsub d0 d1 d2 hgb
            by_cases h71 : c7 = 1
            · have hqn := unhide htail off7 (.inr h71)
              have hLn := hide (qiLen_any b _ _ _ W7 hqn)
              replace hqn := hide hqn
              replace htail := hide htail
              rw [hT1] at hqn hLn
              go_wp2_with fail
              refine (unhide hLn).mono ?_
              rintro e W8 ⟨rfl, rfl⟩
              go_wp2
              go_roundg g'
              case measure => omega
              case rel => exact ⟨i + 1, T1, by go_num, by omega, by omega, by have h := unhide hqn; rw [show c7 - 1 = 0 by omega] at h; exact h, unhide hsT, by omega, unhide hbw7⟩
            · have hqn := unhide htail (off7 + 3) (.inl rfl)
              have hLn := hide (qiLen_any b _ _ _ W7 hqn)
              replace hqn := hide hqn
              replace htail := hide htail
              rw [hT1] at hqn hLn
              go_wp2_with fail
              refine (unhide hLn).mono ?_
              rintro e W8 ⟨rfl, rfl⟩
              go_wp2
              go_roundg g'
              case measure => omega
              case rel => exact ⟨i + 1, T1, by go_num, by omega, by omega, unhide hqn, unhide hsT, by omega, unhide hbw7⟩
          · obtain ⟨a7, c7, rfl, hc7, hc72⟩ := hQc.shape
            have hLn := hide (qiLen_any b _ _ _ wc hQc)
            rw [hsl] at hLn hQc ⊢
            unfold maxLen at hc72
            have hnext : (i < n' ∧ L1.getD i undef = .bool false) ∨ ¬ i < n' := by
              by_cases hin' : i < n'
              · left
                obtain ⟨bv, hbv⟩ := unhide hbl (L1.getD i undef) (by simp [List.getD, show i < L1.length by omega])
                cases bv with
                | true => exact absurd ⟨hin', hbv⟩ hnx
                | false => exact ⟨hin', hbv⟩
              · exact .inr hin'
            have hfin := hide (show i + 1 ≤ n ∧ Wl.length + 1 ≤ i + 1 by omega)
            replace hQc := hide hQc
            replace hss := hide hss
            rcases hnext with ⟨hin', hLf⟩ | hin'
            · have hlz' : (i : Int) < n' := by omega
              obtain ⟨bb, bo, rfl, hbb', hbc'⟩ := unhide k3 (by omega)
              have hcell := hbc' i hin'
              rw [hLf, ← hbc.cell (by exact hbb')] at hcell
              clear hbc' hnx
              replace hbc := hide hbc
              go_wp2_with fail
              refine (unhide hLn).mono ?_
              rintro e W8 ⟨rfl, rfl⟩
              go_wp2
              go_roundg g'
              case measure => omega
              case rel => exact ⟨i + 1, Sl, by go_num, by omega, by omega, unhide hQc, unhide hss, by omega, unhide hbc⟩
            · have hlz' : ¬ (i : Int) < n' := by omega
              clear hnx
              replace hbc := hide hbc
              go_wp2_with fail
              refine (unhide hLn).mono ?_
              rintro e W8 ⟨rfl, rfl⟩
              go_wp2
              go_roundg g'
              case measure => omega
              case rel => exact ⟨i + 1, Sl, by go_num, by omega, by omega, unhide hQc, unhide hss, by omega, unhide hbc⟩
      · have hx : (i < n ∧ i = 40) ∨ ¬ i < n := by omega
        rcases hx with ⟨hx1, hx2⟩ | hx
        · have hlz : (i : Int) < n := by omega
          have hlw : ¬ (i : Int) < 40 := by omega
          go_wp2
          go_meet
          case rel => exact ⟨Wl, hQ, hS, by omega, hbw⟩
        · have hlz : ¬ (i : Int) < n := by omega
          go_wp2
          go_meet
          case rel => exact ⟨Wl, hQ, hS, by omega, hbw⟩
  case rest =>
    obtain ⟨W00, hQ0, hS0, hl0, hb0⟩ := hcut
    go_wp2
    go_loopg [7] 40 (fun gf s7 wx => ∃ Wl, QI wx b s7 Wl Wl ∧ Srt Wl ∧ Wl.length ≤ gf ∧ gf ≤ 40 ∧ Below w.heap.size w wx)
    case atStart => exact ⟨W00, hQ0, hS0, hl0, by omega, hb0⟩
    case round =>
      clear hQ0 hS0 hl0 hb0 hq0 hbq
      obtain ⟨Wl, hQ, hS, hWl, hgf, hbw⟩ := hrel
      cases Wl with
      | nil =>
        obtain ⟨a7, c7, rfl, hc7, hc72⟩ := hQ.shape
        have hN := hide (qiNext_none b _ _ wr hQ)
        replace hQ := hide hQ
        simp only [List.length_nil]
        clear hS
        go_wp2_with fail
        refine (unhide hN).mono ?_
        rintro e W4 ⟨rfl, hQ4, hb4⟩
        have hq5 := hQ4.below (below_alloc W4 (.cells #[.int .i64 0, .int .i64 0, .string ⟨#[]⟩] 29 (0, 0)))
        have hLn := hide (qiLen_any b _ _ _ _ hq5)
        have hbw4 := (hbw.trans (hb4.mono hbw.size))
        have hbw5 := hide (hbw4.alloc hbw4.size (.cells #[.int .i64 0, .int .i64 0, .string ⟨#[]⟩] 29 (0, 0)))
        clear hq5 hN hQ4 hb4 hbw4 hbw
        go_wp2_with fail
        refine (unhide hLn).mono ?_
        rintro e W8 ⟨rfl, rfl⟩
        go_wp2
        go_ret
        exact ⟨rfl, unhide hbw5⟩
      | cons e1 T1 =>
        obtain ⟨xp, xn, xs⟩ := e1
        simp only [List.length_cons] at hWl
        obtain ⟨g', rfl⟩ : ∃ g', gk = g' + 1 := ⟨gk - 1, by omega⟩
        have hN := hide (qiNext_any b _ (⟨xp, xn, xs⟩ :: T1) T1 ⟨xp, xn, xs⟩ wr hQ hS (by omega))
        have hsT := hide (List.pairwise_cons.1 hS).2
        obtain ⟨a7, c7, hsh, hc7, hc72⟩ := hQ.shape
        subst hsh
        simp only [List.length_cons] at hQ ⊢
        have hzl : (0 : Int) < ((T1.length + 1 : Nat) : Int) := by omega
        have hzl2 : (0 : Int) < (T1.length : Int) + 1 := by omega
        replace hQ := hide hQ
        replace hS := hide hS
        have hbs' := hbw.size
        replace hbw := hide hbw
        go_wp2_with fail
        refine (unhide hN).mono ?_
        rintro e W4 ⟨rfl, hQ4, hb4⟩
        have hbw4 : Hid (Below w.heap.size w W4) := hide ((unhide hbw).trans (hb4.mono hbb))
        clear hN hb4 hQ hc7 hc72
        obtain ⟨g7, off7, c8, h7e, hc7, hc72, hg7, hg7b, hat7, hsub7, htail⟩ := QI.cons hQ4
        have hbx : Below W4.heap.size W4 (W4.alloc (.cells #[.int .i64 xp, .int .i64 xn, .string xs] 29 (0, 0))) := below_alloc _ _
        have hsub := hide (hsub7.below hbx)
        have d0 : (W4.alloc (.cells #[.int .i64 xp, .int .i64 xn, .string xs] 29 (0, 0))).cell? ⟨W4.heap.size, 0, none⟩ = some (.int .i64 xp) := cell_alloc_at W4 _ 29 0 (by simp)
        have d1 : (W4.alloc (.cells #[.int .i64 xp, .int .i64 xn, .string xs] 29 (0, 0))).cell? ⟨W4.heap.size, 1, none⟩ = some (.int .i64 xn) := cell_alloc_at W4 _ 29 1 (by simp)
        have d2 : (W4.alloc (.cells #[.int .i64 xp, .int .i64 xn, .string xs] 29 (0, 0))).cell? ⟨W4.heap.size, 2, none⟩ = some (.string xs) := cell_alloc_at W4 _ 29 2 (by simp)
        have hgb : W4.heap.size < (W4.alloc (.cells #[.int .i64 xp, .int .i64 xn, .string xs] 29 (0, 0))).heap.size := by simp
        have hbw5 := hide ((unhide hbw4).alloc (unhide hbw4).size (.cells #[.int .i64 xp, .int .i64 xn, .string xs] 29 (0, 0)))
        injection h7e with h7a h7b h7c
        subst h7a h7c
        unfold maxLen at hc72
        replace htail := hide (fun o' ho' => (htail o' ho').below hbx)
        replace d0 := hide d0
        replace d1 := hide d1
        replace d2 := hide d2
        replace hgb := hide hgb
        clear hat7 hsub7 hg7 hg7b hQ4 hbx
        go_upto_region 21 with fail
        replace d0 := unhide d0
        replace d1 := unhide d1
        replace d2 := unhide d2
        replace hgb := unhide hgb
        generalize W4.alloc (.cells #[.int .i64 xp, .int .i64 xn, .string xs] 29 (0, 0)) = W5 at *
        generalize W4.heap.size = gb at *
        have hS : Below W5.heap.size W5 W5.drew := (Below.refl _ _).drew
        refine wp_region_held_drew (S := fun w' => Below W5.heap.size W5 w') (by kernel_rfl) hS (fun _ => ?_)
        generalize World.drew W5 = WD at hS ⊢
        refine wpAnyH_take (i := 0) (v := .bool true) rfl (by kernel_rfl) (by kernel_rfl) (by kernel_rfl) (fun _ _ _ h => h) (Or.inl ⟨by kernel_rfl, ?_⟩) hS ?_
        · intro w hSw
          go_simp
        try simp only [List.getElem_toArray, List.getElem_cons_succ, List.getElem_cons_zero, Act.put, List.setIfInBounds_toArray, List.set_cons_zero, List.set_cons_succ]
        refine wpAnyH_take (i := 1) (v := .bool false) rfl (by kernel_rfl) (by kernel_rfl) (by kernel_rfl) (fun _ _ _ h => h) (Or.inl ⟨by kernel_rfl, ?_⟩) hS ?_
        · intro w hSw
          go_simp
        try simp only [List.getElem_toArray, List.getElem_cons_succ, List.getElem_cons_zero, Act.put, List.setIfInBounds_toArray, List.set_cons_zero, List.set_cons_succ]
        refine wpAnyH_take (i := 2) (v := .bool false) rfl (by kernel_rfl) (by kernel_rfl) (by kernel_rfl) (fun _ _ _ h => h) (Or.inl ⟨by kernel_rfl, ?_⟩) hS ?_
        · intro w hSw
          go_simp
        try simp only [List.getElem_toArray, List.getElem_cons_succ, List.getElem_cons_zero, Act.put, List.setIfInBounds_toArray, List.set_cons_zero, List.set_cons_succ]
        refine wpAnyH_take (i := 3) (v := .agg #[.int .i64 xp, .int .i64 xn, .string xs]) rfl (by kernel_rfl) (by kernel_rfl) (by kernel_rfl) (fun _ _ _ h => h) (Or.inl ⟨by kernel_rfl, ?_⟩) hS ?_
        · intro w hSw
          have e0 := (hSw.cell (p := ⟨gb, 0, none⟩) hgb).trans d0
          have e1 := (hSw.cell (p := ⟨gb, 1, none⟩) hgb).trans d1
          have e2 := (hSw.cell (p := ⟨gb, 2, none⟩) hgb).trans d2
          clear d0 d1 d2
          go_simp
        try simp only [List.getElem_toArray, List.getElem_cons_succ, List.getElem_cons_zero, Act.put, List.setIfInBounds_toArray, List.set_cons_zero, List.set_cons_succ]
        refine wpAnyH_take (i := 5) (v := .slice (some ⟨g7, off7, none⟩) (T1.length + 1) c7) rfl (by kernel_rfl) (by kernel_rfl) (by kernel_rfl) (fun _ _ _ h => h) (Or.inl ⟨by kernel_rfl, ?_⟩) hS ?_
        · intro w hSw
          go_simp
        try simp only [List.getElem_toArray, List.getElem_cons_succ, List.getElem_cons_zero, Act.put, List.setIfInBounds_toArray, List.set_cons_zero, List.set_cons_succ]
        refine wpAnyH_take (i := 6) (v := .slice (some ⟨g7, off7, none⟩) 1 c7) rfl (by kernel_rfl) (by kernel_rfl) (by kernel_rfl) (fun _ _ _ h => h) (Or.inl ⟨by kernel_rfl, ?_⟩) hS ?_
        · intro w hSw
          have hz7 : ¬ (c7 : Int) < 1 := by omega
          go_simp
        try simp only [List.getElem_toArray, List.getElem_cons_succ, List.getElem_cons_zero, Act.put, List.setIfInBounds_toArray, List.set_cons_zero, List.set_cons_succ]
        refine wpAnyH_ready (rs := [4]) (by kernel_rfl) (by decide) ?_
        refine AllReadyH.cons rfl (fun K' hK => ?_) AllReadyH.nil
        rw [if_pos (by kernel_rfl)]
        refine oper_of_run (run_build_ed WD _ _ _ _ _ _ _ xp xn xs rfl) ?_
        have hE6 := eds_one WD ⟨xp, xn, xs⟩ (0, 0)
        have hS6 : Below W5.heap.size W5 (WD.alloc (.cells #[.int .i64 xp, .int .i64 xn, .string xs] 29 (0, 0))) := hS.alloc hS.size _
        refine hK.out _ _ hS6 (fun _ => ?_)
        clear hK K'
        generalize WD.heap.size = g6 at *
        generalize WD.alloc (.cells #[.int .i64 xp, .int .i64 xn, .string xs] 29 (0, 0)) = W6 at *
        try simp only [List.getElem_toArray, List.getElem_cons_succ, List.getElem_cons_zero, Act.put, List.setIfInBounds_toArray, List.set_cons_zero, List.set_cons_succ]
        refine wpAnyH_ready (rs := [7]) (by kernel_rfl) (by decide) ?_
        refine AllReadyH.cons rfl (fun K' hK => ?_) AllReadyH.nil
        rw [if_pos (by kernel_rfl)]
        refine oper_call (run_call2 cf_mlEq) ((mlEq_any _ _ [⟨xp, xn, xs⟩] [⟨xp, xn, xs⟩] W6 hE6 ((unhide hsub).below hS6) (by simp) (by simp)).mono ?_)
        rintro e W7 ⟨rfl, q7, rfl⟩
        have hS7 : Below W5.heap.size W5 (W6.drewN q7) := below_drewN hS6 q7
        refine ⟨.bool true, by simp, hK.out _ _ hS7 (fun _ => ?_)⟩
        clear hK K'
        generalize W6.drewN q7 = W7 at *
        try simp only [List.getElem_toArray, List.getElem_cons_succ, List.getElem_cons_zero, Act.put, List.setIfInBounds_toArray, List.set_cons_zero, List.set_cons_succ]
        refine wpAnyH_ready (rs := [8]) (by kernel_rfl) (by decide) ?_
        refine AllReadyH.cons rfl (fun K' hK => ?_) AllReadyH.nil
        rw [if_pos (by kernel_rfl)]
        refine oper_of_run (v := .bool false) (w' := W7) rfl ?_
        refine hK.out _ _ hS7 (fun _ => ?_)
        clear hK K'
        try simp only [List.getElem_toArray, List.getElem_cons_succ, List.getElem_cons_zero, Act.put, List.setIfInBounds_toArray, List.set_cons_zero, List.set_cons_succ]
        refine wpAnyH_ready (rs := [9]) (by kernel_rfl) (by decide) ?_
        refine AllReadyH.cons rfl (fun K' hK => ?_) AllReadyH.nil
        rw [if_pos (by kernel_rfl)]
        refine oper_of_run (v := .bool false) (w' := W7) rfl ?_
        refine hK.out _ _ hS7 (fun _ => ?_)
        clear hK K'
        try simp only [List.getElem_toArray, List.getElem_cons_succ, List.getElem_cons_zero, Act.put, List.setIfInBounds_toArray, List.set_cons_zero, List.set_cons_succ]
        refine wpAnyH_done (by kernel_rfl) ?_ _
        replace htail := hide (fun o' ho' => (unhide htail o' ho').below hS7)
        have hbw7 := hide ((unhide hbw5).trans (hS7.mono (unhide hbw5).size))
        clear hS hS6 hS7 hE6 hsub d0 d1 d2 hgb
        by_cases h71 : c7 = 1
        · have hqn := hide (unhide htail off7 (.inr h71))
          replace htail := hide htail
          go_wp2
          go_roundg g'
          case measure => omega
          case rel => exact ⟨T1, by have h := unhide hqn; rw [show c7 - 1 = 0 by omega] at h; exact h, unhide hsT, by omega, by omega, unhide hbw7⟩
        · have hqn := hide (unhide htail (off7 + 3) (.inl rfl))
          replace htail := hide htail
          go_wp2
          go_roundg g'
          case measure => omega
          case rel => exact ⟨T1, unhide hqn, unhide hsT, by omega, by omega, unhide hbw7⟩
end Go.Proofs.Ytpjpghigilbfaaa

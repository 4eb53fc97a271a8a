/-
  1 texts in one.
-/
import Derived.Test.YtdjjbdmnjegfjaaB08
/-
  The parser: semicolons that say nothing; braces; a block.
-/
namespace Go.Proofs.Ytdjjbdmnjegfjaa
open Go.RowKit Go.Lib Go.Sort
set_option linter.unusedSimpArgs false
set_option linter.unusedVariables false
theorem skN_step {L : List Tk} {j : Nat} (h : knd L j 6 = true) : skN L j = skN L (j + 1) := by
  have hj := knd_lt h (by decide)
  unfold skN
  obtain ⟨m, hm⟩ : ∃ m, L.length - j = m + 1 := ⟨L.length - j - 1, by omega⟩
  rw [hm, show L.length - (j + 1) = m by omega]
  simp only [skF, h, if_true]
theorem skN_stop {L : List Tk} {j : Nat} (h : knd L j 6 = false) : skN L j = j := by
  unfold skN
  cases L.length - j with
  | zero => rfl
  | succ m => simp [skF, h]
set_option maxHeartbeats 4000000 in
set_option maxRecDepth 100000 in
theorem paSkip_any {g : Nat} {tv : Value} {L : List Tk} {i d : Nat} {w : World} (h : PaW g tv L i d w) : Calls Try.prog 40 #[.pointer (some ⟨g, 0, none⟩)] w fun e w' => OkV g tv L (.tuple #[]) (skN L i) d w e w' := by
  have hM0 := hide (Moves.refl (fun x => x = g) w)
  replace h := hide h
  obtain ⟨R, hR⟩ : ∃ R, skN L i = R := ⟨_, rfl⟩
  rw [hR]
  go_enter Try.func40, Try.ntmps40
  go_wp2
  go_loopg [] L.length (fun gf wx => ∃ j : Nat, PaW g tv L j d wx ∧ MoP g w wx ∧ skN L j = R ∧ L.length - j ≤ gf)
  case atStart => exact ⟨i, unhide h, unhide hM0, hR, by omega⟩
  case round =>
    obtain ⟨j, hP, hM, hsj, hgf⟩ := hrel
    replace hP := hide hP
    replace hM := hide hM
    clear hM0 hR
    cases hk : knd L j 6 with
    | true =>
      have hj := knd_lt hk (by decide)
      have hs' := hide ((skN_step hk).symm.trans hsj)
      replace hsj := hide hsj
      obtain ⟨g', rfl⟩ : ∃ g', gk = g' + 1 := ⟨gk - 1, by omega⟩
      go_wp2_with fail
      have hK := paIsKind_any (unhide hP) 6
      rw [hk] at hK
      refine (hK).mono ?_
      rintro e W20 ⟨rfl, hb⟩
      have h2 := (unhide hP).below hb
      have hm := mop_below (g := g) hb
      clear hb
      have hzz := hm.size
      replace hM := hide ((unhide hM).trans hm)
      replace hP := hide h2
      clear hm h2
      go_wp2_with fail
      refine (paNext_any (unhide hP) hj).mono ?_
      rintro e W21 ⟨rfl, h2, hm⟩
      have hzz := hm.size
      replace hM := hide ((unhide hM).trans hm)
      replace hP := hide h2
      clear hm h2
      have hX := hide (And.intro (unhide hP) (unhide hM))
      go_wp2
      go_roundg g'
      case measure => omega
      case rel => exact ⟨j + 1, (unhide hX).1, (unhide hX).2, unhide hs', by omega⟩
    | false =>
      replace hsj := hide hsj
      go_wp2_with fail
      have hK := paIsKind_any (unhide hP) 6
      rw [hk] at hK
      refine (hK).mono ?_
      rintro e W20 ⟨rfl, hb⟩
      have h2 := (unhide hP).below hb
      have hm := mop_below (g := g) hb
      clear hb
      have hzz := hm.size
      replace hM := hide ((unhide hM).trans hm)
      replace hP := hide h2
      clear hm h2
      go_wp2
      have e := unhide hsj
      rw [skN_stop hk] at e
      subst e
      exact bodyPost_ret (results_none rfl _ _ _) rfl ⟨rfl, unhide hP, unhide hM⟩
set_option maxHeartbeats 4000000 in
set_option maxRecDepth 100000 in
theorem paBraces_step {g : Nat} {tv : Value} {L : List Tk} {i d : Nat} {w : World} (h : PaW g tv L i d w) {f : Nat} (HA : ∀ f', f' < f → ∀ (w : World) (i : Nat), PaW g tv L i d w → stmA L f' i d ≠ .out → Calls Try.prog 72 #[.pointer (some ⟨g, 0, none⟩)] w fun e w' => ResN w.heap.size g tv L d w (stmA L f' i d) e w') (hf : f ≤ 1000000) (hne : brsA L f .nil (skN L i) d ≠ .out) :
    Calls Try.prog 56 #[.pointer (some ⟨g, 0, none⟩), .func (.func 72) #[.pointer (some ⟨g, 0, none⟩)] #[]] w fun e w' => ResF w.heap.size g tv L d w (brsA L f .nil (skN L i) d) e w' := by
  have HH := hide HA
  have h0 := hide h
  clear HA
  obtain ⟨R, hR⟩ : ∃ R, brsA L f .nil (skN L i) d = R := ⟨_, rfl⟩
  rw [hR] at hne ⊢
  have hP := hide h
  have hM := hide (Moves.refl (fun x => x = g) w)
  go_enter Try.func56, Try.ntmps56
  go_wp2_with fail
  refine (paSkip_any (unhide hP)).mono ?_
  rintro e W2 ⟨rfl, h2, hm⟩
  have hzz := hm.size
  replace hM := hide ((unhide hM).trans hm)
  replace hP := hide h2
  clear hm h2
  go_upto_region 3 with fail
  go_loopg [5] f (fun gf s5 wx => ∃ (v5 : Value) (l : F) (j : Nat), v5 = s5 ∧ RowP (fun x => w.heap.size ≤ x) wx w.heap.size s5 l ∧ PaW g tv L j d wx ∧ MoP g w wx ∧ brsA L gf l j d = R ∧ l.len + gf ≤ f ∧ gf ≤ f)
  case atStart => exact ⟨_, _, _, rfl, rowP_nil _ _ _, unhide hP, unhide hM, hR, by simp only [F.len]; omega, Nat.le_refl _⟩
  case round =>
    obtain ⟨v5, l, j, rfl, hRw, hP, hM, hE, hlf, hgf⟩ := hrel
    cases gk with
    | zero =>
      unfold brsA at hE
      exact absurd hE.symm hne
    | succ g' =>
      unfold brsA at hE
      replace hRw := hide hRw
      replace hP := hide hP
      replace hM := hide hM
      clear hR
      cases ho : opA L j [125] with
      | true =>
        simp only [ho, if_true] at hE
        subst hE
        go_wp2_with fail
        refine (paOp_any _ _).mono ?_
        rintro e W20 ⟨rfl, hb⟩
        have h2 := (unhide hP).below hb
        have hm := mop_below (g := g) hb
        clear hb
        replace hRw := hide ((unhide hRw).mop (unhide hP) hm)
        have hzz := hm.size
        replace hM := hide ((unhide hM).trans hm)
        replace hP := hide h2
        clear hm h2
        go_wp2_with fail
        have hK := paIs_any (unhide hP) (opT [125])
        rw [eqB_op, ho] at hK
        refine (hK).mono ?_
        rintro e W21 ⟨rfl, hb⟩
        have h2 := (unhide hP).below hb
        have hm := mop_below (g := g) hb
        clear hb
        replace hRw := hide ((unhide hRw).mop (unhide hP) hm)
        have hzz := hm.size
        replace hM := hide ((unhide hM).trans hm)
        replace hP := hide h2
        clear hm h2
        go_wp2_with fail
        refine (paOp_any _ _).mono ?_
        rintro e W22 ⟨rfl, hb⟩
        have h2 := (unhide hP).below hb
        have hm := mop_below (g := g) hb
        clear hb
        replace hRw := hide ((unhide hRw).mop (unhide hP) hm)
        have hzz := hm.size
        replace hM := hide ((unhide hM).trans hm)
        replace hP := hide h2
        clear hm h2
        go_wp2_with fail
        refine (paWant_yes (unhide hP) (opT [125]) (by rw [eqB_op]; exact ho) (opA_lt ho)).mono ?_
        rintro e W23 ⟨rfl, h2, hm⟩
        replace hRw := hide ((unhide hRw).mop (unhide hP) hm)
        have hzz := hm.size
        replace hM := hide ((unhide hM).trans hm)
        replace hP := hide h2
        clear hm h2
        obtain ⟨av, cv, rfl, hsl⟩ := (unhide hRw).sl (fun _ h => h)
        replace hsl := hide hsl
        clear hRw
        go_wp2
        go_ret
        exact ⟨av, cv, rfl, unhide hsl, unhide hP, unhide hM⟩
      | false =>
        simp only [ho, Bool.false_eq_true, if_false] at hE
        have hne1 : stmA L g' j d ≠ .out := fun e => hne (by rw [← hE, e]; rfl)
        have hH := hide (fun w h => unhide HH g' (by omega) w j h hne1)
        cases hr : stmA L g' j d with
        | out => exact absurd hr hne1
        | bad j2 =>
          rw [hr] at hE hH
          simp only [PR.bind] at hE
          subst hE
          go_wp2_with fail
          refine (paOp_any _ _).mono ?_
          rintro e W20 ⟨rfl, hb⟩
          have h2 := (unhide hP).below hb
          have hm := mop_below (g := g) hb
          clear hb
          replace hRw := hide ((unhide hRw).mop (unhide hP) hm)
          have hzz := hm.size
          replace hM := hide ((unhide hM).trans hm)
          replace hP := hide h2
          clear hm h2
          go_wp2_with fail
          have hK := paIs_any (unhide hP) (opT [125])
          rw [eqB_op, ho] at hK
          refine (hK).mono ?_
          rintro e W21 ⟨rfl, hb⟩
          have h2 := (unhide hP).below hb
          have hm := mop_below (g := g) hb
          clear hb
          replace hRw := hide ((unhide hRw).mop (unhide hP) hm)
          have hzz := hm.size
          replace hM := hide ((unhide hM).trans hm)
          replace hP := hide h2
          clear hm h2
          go_wp2_with fail
          refine (unhide hH _ (unhide hP)).mono ?_
          rintro e W22 hBad
          obtain rfl := hBad.1
          have hG := hide (hBad.pre (unhide hM))
          clear hBad
          go_wp2
          exact ⟨rfl, unhide hG⟩
        | ok n j2 =>
          obtain ⟨nk, nt, nc⟩ := n
          rw [hr] at hE hH
          simp only [PR.bind, snoc, one] at hE
          cases ho2 : opA L j2 [125] with
          | true =>
            simp only [ho2, if_true] at hE
            go_wp2_with fail
            refine (paOp_any _ _).mono ?_
            rintro e W20 ⟨rfl, hb⟩
            have h2 := (unhide hP).below hb
            have hm := mop_below (g := g) hb
            clear hb
            replace hRw := hide ((unhide hRw).mop (unhide hP) hm)
            have hzz := hm.size
            replace hM := hide ((unhide hM).trans hm)
            replace hP := hide h2
            clear hm h2
            go_wp2_with fail
            have hK := paIs_any (unhide hP) (opT [125])
            rw [eqB_op, ho] at hK
            refine (hK).mono ?_
            rintro e W21 ⟨rfl, hb⟩
            have h2 := (unhide hP).below hb
            have hm := mop_below (g := g) hb
            clear hb
            replace hRw := hide ((unhide hRw).mop (unhide hP) hm)
            have hzz := hm.size
            replace hM := hide ((unhide hM).trans hm)
            replace hP := hide h2
            clear hm h2
            go_wp2_with fail
            refine (unhide hH _ (unhide hP)).mono ?_
            rintro e W30 ⟨a2, m2, c2, rfl, hs, h2, hm⟩
            dsimp only at hs
            have hRl := (unhide hRw).lt
            have hRw2 := (unhide hRw).mop (unhide hP) hm
            have hwl := (unhide hM).size
            replace hM := (unhide hM).trans hm
            have hzs := hm.size
            have hz31 := hM.size
            have hL2 : SlQ (fun x => w.heap.size ≤ x ∧ v5.ownBlock ≠ some x ∧ x < (W30.alloc (.cells #[.int .i64 nk, .int .i64 nt, .slice a2 m2 c2] 26 (0, 0))).heap.size) (W30.alloc (.cells #[.int .i64 nk, .int .i64 nt, .slice a2 m2 c2] 26 (0, 0))) (some ⟨W30.heap.size, 0, none⟩) 1 1 (.cons nk nt nc .nil) :=
              (lit1_sl (P := fun x => w.heap.size ≤ x ∧ v5.ownBlock ≠ some x) W30 nk nt a2 m2 c2 nc (hs.mono (fun x hx => ⟨by have e1 := hx.1; omega, fun e => by have := hRl x e; have e1 := hx.1; omega⟩)) ⟨hz31, fun e => by have := hRl _ e; omega⟩).mono (fun x hx => ⟨hx.1.1, hx.1.2, hx.lt⟩)
            have hRw3 := hRw2.below (below_alloc W30 (.cells #[.int .i64 nk, .int .i64 nt, .slice a2 m2 c2] 26 (0, 0)))
            have hP3 := hide (h2.below (below_alloc W30 (.cells #[.int .i64 nk, .int .i64 nt, .slice a2 m2 c2] 26 (0, 0))))
            have hM3 := hide (hM.trans (mop_below (g := g) (below_alloc W30 (.cells #[.int .i64 nk, .int .i64 nt, .slice a2 m2 c2] 26 (0, 0)))))
            have hz32 : w.heap.size ≤ (W30.alloc (.cells #[.int .i64 nk, .int .i64 nt, .slice a2 m2 c2] 26 (0, 0))).heap.size := by simp; omega
            clear hs h2 hm hM hRw hRw2 hP
            obtain ⟨gl2, hgl2⟩ : ∃ x, W30.heap.size = x := ⟨_, rfl⟩
            obtain ⟨WA, hq_WA⟩ : ∃ x, W30.alloc (.cells #[.int .i64 nk, .int .i64 nt, .slice a2 m2 c2] 26 (0, 0)) = x := ⟨_, rfl⟩
            rw [hq_WA] at hL2 hRw3 hP3 hM3 hz32
            rw [hgl2] at hL2
            replace hL2 := hide hL2
            replace hRw3 := hide hRw3
            have hE' := hide hE
            go_wp2_with (at_builtin; refine wpList_append_rowP rfl (.tmp 12) (.tmp 15) rfl rfl (unhide hRw3) rfl (unhide hL2) (by omega) hz32 ?_)
            intro v4 W40 hR4 hb4 hg4 hl4
            have hP := hide ((unhide hP3).belowB (unhide h0) hb4)
            have hM := hide (mop_belowB (unhide h0) hb4 hz32 (unhide hM3))
            have hRw := hide hR4
            clear hb4 hg4 hl4 hL2 hRw3 hP3 hM3 hq_WA hgl2 hR4
            go_wp2_with fail
            refine (paOp_any _ _).mono ?_
            rintro e W41 ⟨rfl, hb⟩
            have h2 := (unhide hP).below hb
            have hm := mop_below (g := g) hb
            clear hb
            replace hRw := hide ((unhide hRw).mop (unhide hP) hm)
            have hzz := hm.size
            replace hM := hide ((unhide hM).trans hm)
            replace hP := hide h2
            clear hm h2
            go_wp2_with fail
            have hK := paIs_any (unhide hP) (opT [125])
            rw [eqB_op, ho2] at hK
            refine (hK).mono ?_
            rintro e W42 ⟨rfl, hb⟩
            have h2 := (unhide hP).below hb
            have hm := mop_below (g := g) hb
            clear hb
            replace hRw := hide ((unhide hRw).mop (unhide hP) hm)
            have hzz := hm.size
            replace hM := hide ((unhide hM).trans hm)
            replace hP := hide h2
            clear hm h2
            go_wp2_with fail
            refine (paSkip_any (unhide hP)).mono ?_
            rintro e W43 ⟨rfl, h2, hm⟩
            replace hRw := hide ((unhide hRw).mop (unhide hP) hm)
            have hzz := hm.size
            replace hM := hide ((unhide hM).trans hm)
            replace hP := hide h2
            clear hm h2
            have hX := hide (And.intro (unhide hRw) (And.intro (unhide hP) (unhide hM)))
            clear hE
            go_wp2
            go_roundg g'
            case measure => omega
            case rel => exact ⟨_, _, _, rfl, (unhide hX).1, (unhide hX).2.1, (unhide hX).2.2, unhide hE', by rw [F.len_app]; simp only [F.len]; omega, by omega⟩
          | false =>
            simp only [ho2, Bool.false_eq_true, if_false, wantA] at hE
            cases hk2 : knd L j2 6 with
            | false =>
              simp only [hk2, Bool.false_eq_true, if_false] at hE
              subst hE
              go_wp2_with fail
              refine (paOp_any _ _).mono ?_
              rintro e W20 ⟨rfl, hb⟩
              have h2 := (unhide hP).below hb
              have hm := mop_below (g := g) hb
              clear hb
              replace hRw := hide ((unhide hRw).mop (unhide hP) hm)
              have hzz := hm.size
              replace hM := hide ((unhide hM).trans hm)
              replace hP := hide h2
              clear hm h2
              go_wp2_with fail
              have hK := paIs_any (unhide hP) (opT [125])
              rw [eqB_op, ho] at hK
              refine (hK).mono ?_
              rintro e W21 ⟨rfl, hb⟩
              have h2 := (unhide hP).below hb
              have hm := mop_below (g := g) hb
              clear hb
              replace hRw := hide ((unhide hRw).mop (unhide hP) hm)
              have hzz := hm.size
              replace hM := hide ((unhide hM).trans hm)
              replace hP := hide h2
              clear hm h2
              go_wp2_with fail
              refine (unhide hH _ (unhide hP)).mono ?_
              rintro e W30 ⟨a2, m2, c2, rfl, hs, h2, hm⟩
              dsimp only at hs
              have hRl := (unhide hRw).lt
              have hRw2 := (unhide hRw).mop (unhide hP) hm
              have hwl := (unhide hM).size
              replace hM := (unhide hM).trans hm
              have hzs := hm.size
              have hz31 := hM.size
              have hL2 : SlQ (fun x => w.heap.size ≤ x ∧ v5.ownBlock ≠ some x ∧ x < (W30.alloc (.cells #[.int .i64 nk, .int .i64 nt, .slice a2 m2 c2] 26 (0, 0))).heap.size) (W30.alloc (.cells #[.int .i64 nk, .int .i64 nt, .slice a2 m2 c2] 26 (0, 0))) (some ⟨W30.heap.size, 0, none⟩) 1 1 (.cons nk nt nc .nil) :=
                (lit1_sl (P := fun x => w.heap.size ≤ x ∧ v5.ownBlock ≠ some x) W30 nk nt a2 m2 c2 nc (hs.mono (fun x hx => ⟨by have e1 := hx.1; omega, fun e => by have := hRl x e; have e1 := hx.1; omega⟩)) ⟨hz31, fun e => by have := hRl _ e; omega⟩).mono (fun x hx => ⟨hx.1.1, hx.1.2, hx.lt⟩)
              have hRw3 := hRw2.below (below_alloc W30 (.cells #[.int .i64 nk, .int .i64 nt, .slice a2 m2 c2] 26 (0, 0)))
              have hP3 := hide (h2.below (below_alloc W30 (.cells #[.int .i64 nk, .int .i64 nt, .slice a2 m2 c2] 26 (0, 0))))
              have hM3 := hide (hM.trans (mop_below (g := g) (below_alloc W30 (.cells #[.int .i64 nk, .int .i64 nt, .slice a2 m2 c2] 26 (0, 0)))))
              have hz32 : w.heap.size ≤ (W30.alloc (.cells #[.int .i64 nk, .int .i64 nt, .slice a2 m2 c2] 26 (0, 0))).heap.size := by simp; omega
              clear hs h2 hm hM hRw hRw2 hP
              obtain ⟨gl2, hgl2⟩ : ∃ x, W30.heap.size = x := ⟨_, rfl⟩
              obtain ⟨WA, hq_WA⟩ : ∃ x, W30.alloc (.cells #[.int .i64 nk, .int .i64 nt, .slice a2 m2 c2] 26 (0, 0)) = x := ⟨_, rfl⟩
              rw [hq_WA] at hL2 hRw3 hP3 hM3 hz32
              rw [hgl2] at hL2
              replace hL2 := hide hL2
              replace hRw3 := hide hRw3
              go_wp2_with (at_builtin; refine wpList_append_rowP rfl (.tmp 12) (.tmp 15) rfl rfl (unhide hRw3) rfl (unhide hL2) (by omega) hz32 ?_)
              intro v4 W40 hR4 hb4 hg4 hl4
              have hP := hide ((unhide hP3).belowB (unhide h0) hb4)
              have hM := hide (mop_belowB (unhide h0) hb4 hz32 (unhide hM3))
              have hRw := hide hR4
              clear hb4 hg4 hl4 hL2 hRw3 hP3 hM3 hq_WA hgl2 hR4
              go_wp2_with fail
              refine (paOp_any _ _).mono ?_
              rintro e W41 ⟨rfl, hb⟩
              have h2 := (unhide hP).below hb
              have hm := mop_below (g := g) hb
              clear hb
              replace hRw := hide ((unhide hRw).mop (unhide hP) hm)
              have hzz := hm.size
              replace hM := hide ((unhide hM).trans hm)
              replace hP := hide h2
              clear hm h2
              go_wp2_with fail
              have hK := paIs_any (unhide hP) (opT [125])
              rw [eqB_op, ho2] at hK
              refine (hK).mono ?_
              rintro e W42 ⟨rfl, hb⟩
              have h2 := (unhide hP).below hb
              have hm := mop_below (g := g) hb
              clear hb
              replace hRw := hide ((unhide hRw).mop (unhide hP) hm)
              have hzz := hm.size
              replace hM := hide ((unhide hM).trans hm)
              replace hP := hide h2
              clear hm h2
              go_wp2_with fail
              refine (paWantKind_no (unhide hP) 6 hk2).mono ?_
              rintro e W43 hBad
              obtain rfl := hBad.1
              have hG := hide (hBad.pre (unhide hM))
              clear hBad
              go_wp2
              exact ⟨rfl, unhide hG⟩
            | true =>
              simp only [hk2, if_true] at hE
              go_wp2_with fail
              refine (paOp_any _ _).mono ?_
              rintro e W20 ⟨rfl, hb⟩
              have h2 := (unhide hP).below hb
              have hm := mop_below (g := g) hb
              clear hb
              replace hRw := hide ((unhide hRw).mop (unhide hP) hm)
              have hzz := hm.size
              replace hM := hide ((unhide hM).trans hm)
              replace hP := hide h2
              clear hm h2
              go_wp2_with fail
              have hK := paIs_any (unhide hP) (opT [125])
              rw [eqB_op, ho] at hK
              refine (hK).mono ?_
              rintro e W21 ⟨rfl, hb⟩
              have h2 := (unhide hP).below hb
              have hm := mop_below (g := g) hb
              clear hb
              replace hRw := hide ((unhide hRw).mop (unhide hP) hm)
              have hzz := hm.size
              replace hM := hide ((unhide hM).trans hm)
              replace hP := hide h2
              clear hm h2
              go_wp2_with fail
              refine (unhide hH _ (unhide hP)).mono ?_
              rintro e W30 ⟨a2, m2, c2, rfl, hs, h2, hm⟩
              dsimp only at hs
              have hRl := (unhide hRw).lt
              have hRw2 := (unhide hRw).mop (unhide hP) hm
              have hwl := (unhide hM).size
              replace hM := (unhide hM).trans hm
              have hzs := hm.size
              have hz31 := hM.size
              have hL2 : SlQ (fun x => w.heap.size ≤ x ∧ v5.ownBlock ≠ some x ∧ x < (W30.alloc (.cells #[.int .i64 nk, .int .i64 nt, .slice a2 m2 c2] 26 (0, 0))).heap.size) (W30.alloc (.cells #[.int .i64 nk, .int .i64 nt, .slice a2 m2 c2] 26 (0, 0))) (some ⟨W30.heap.size, 0, none⟩) 1 1 (.cons nk nt nc .nil) :=
                (lit1_sl (P := fun x => w.heap.size ≤ x ∧ v5.ownBlock ≠ some x) W30 nk nt a2 m2 c2 nc (hs.mono (fun x hx => ⟨by have e1 := hx.1; omega, fun e => by have := hRl x e; have e1 := hx.1; omega⟩)) ⟨hz31, fun e => by have := hRl _ e; omega⟩).mono (fun x hx => ⟨hx.1.1, hx.1.2, hx.lt⟩)
              have hRw3 := hRw2.below (below_alloc W30 (.cells #[.int .i64 nk, .int .i64 nt, .slice a2 m2 c2] 26 (0, 0)))
              have hP3 := hide (h2.below (below_alloc W30 (.cells #[.int .i64 nk, .int .i64 nt, .slice a2 m2 c2] 26 (0, 0))))
              have hM3 := hide (hM.trans (mop_below (g := g) (below_alloc W30 (.cells #[.int .i64 nk, .int .i64 nt, .slice a2 m2 c2] 26 (0, 0)))))
              have hz32 : w.heap.size ≤ (W30.alloc (.cells #[.int .i64 nk, .int .i64 nt, .slice a2 m2 c2] 26 (0, 0))).heap.size := by simp; omega
              clear hs h2 hm hM hRw hRw2 hP
              obtain ⟨gl2, hgl2⟩ : ∃ x, W30.heap.size = x := ⟨_, rfl⟩
              obtain ⟨WA, hq_WA⟩ : ∃ x, W30.alloc (.cells #[.int .i64 nk, .int .i64 nt, .slice a2 m2 c2] 26 (0, 0)) = x := ⟨_, rfl⟩
              rw [hq_WA] at hL2 hRw3 hP3 hM3 hz32
              rw [hgl2] at hL2
              replace hL2 := hide hL2
              replace hRw3 := hide hRw3
              have hE' := hide hE
              go_wp2_with (at_builtin; refine wpList_append_rowP rfl (.tmp 12) (.tmp 15) rfl rfl (unhide hRw3) rfl (unhide hL2) (by omega) hz32 ?_)
              intro v4 W40 hR4 hb4 hg4 hl4
              have hP := hide ((unhide hP3).belowB (unhide h0) hb4)
              have hM := hide (mop_belowB (unhide h0) hb4 hz32 (unhide hM3))
              have hRw := hide hR4
              clear hb4 hg4 hl4 hL2 hRw3 hP3 hM3 hq_WA hgl2 hR4
              go_wp2_with fail
              refine (paOp_any _ _).mono ?_
              rintro e W41 ⟨rfl, hb⟩
              have h2 := (unhide hP).below hb
              have hm := mop_below (g := g) hb
              clear hb
              replace hRw := hide ((unhide hRw).mop (unhide hP) hm)
              have hzz := hm.size
              replace hM := hide ((unhide hM).trans hm)
              replace hP := hide h2
              clear hm h2
              go_wp2_with fail
              have hK := paIs_any (unhide hP) (opT [125])
              rw [eqB_op, ho2] at hK
              refine (hK).mono ?_
              rintro e W42 ⟨rfl, hb⟩
              have h2 := (unhide hP).below hb
              have hm := mop_below (g := g) hb
              clear hb
              replace hRw := hide ((unhide hRw).mop (unhide hP) hm)
              have hzz := hm.size
              replace hM := hide ((unhide hM).trans hm)
              replace hP := hide h2
              clear hm h2
              go_wp2_with fail
              refine (paWantKind_yes (unhide hP) 6 hk2 (by decide)).mono ?_
              rintro e W43 ⟨rfl, h2, hm⟩
              replace hRw := hide ((unhide hRw).mop (unhide hP) hm)
              have hzz := hm.size
              replace hM := hide ((unhide hM).trans hm)
              replace hP := hide h2
              clear hm h2
              go_wp2_with fail
              refine (paSkip_any (unhide hP)).mono ?_
              rintro e W44 ⟨rfl, h2, hm⟩
              replace hRw := hide ((unhide hRw).mop (unhide hP) hm)
              have hzz := hm.size
              replace hM := hide ((unhide hM).trans hm)
              replace hP := hide h2
              clear hm h2
              have hX := hide (And.intro (unhide hRw) (And.intro (unhide hP) (unhide hM)))
              clear hE
              go_wp2
              go_roundg g'
              case measure => omega
              case rel => exact ⟨_, _, _, rfl, (unhide hX).1, (unhide hX).2.1, (unhide hX).2.2, unhide hE', by rw [F.len_app]; simp only [F.len]; omega, by omega⟩
set_option maxHeartbeats 4000000 in
set_option maxRecDepth 100000 in
theorem paBlock_step {g : Nat} {tv : Value} {L : List Tk} {i d : Nat} {w : World} (h : PaW g tv L i d w) {f : Nat} (HB : ∀ (w : World) (i d : Nat), PaW g tv L i d w → d ≤ 40 → brsA L f .nil (skN L i) d ≠ .out → Calls Try.prog 56 #[.pointer (some ⟨g, 0, none⟩), .func (.func 72) #[.pointer (some ⟨g, 0, none⟩)] #[]] w fun e w' => ResF w.heap.size g tv L d w (brsA L f .nil (skN L i) d) e w') (hd : d ≤ 40) (hne : blkA L (f + 1) i d ≠ .out) :
    Calls Try.prog 62 #[.pointer (some ⟨g, 0, none⟩)] w fun e w' => ResN w.heap.size g tv L d w (blkA L (f + 1) i d) e w' := by
  unfold blkA at hne ⊢
  by_cases hd40 : d = 40
  · subst hd40
    simp only [if_true] at hne ⊢
    clear HB
    have hP := hide (h.alloc (.cells #[.int .i64 0, .int .i64 0, .slice none 0 0] 26 (0, 0))).1
    have hM := hide (h.alloc (.cells #[.int .i64 0, .int .i64 0, .slice none 0 0] 26 (0, 0))).2
    have hN := hide (nblk_new w 0 0 none 0 0)
    obtain ⟨gb, hgb⟩ : ∃ gb, w.heap.size = gb := ⟨_, rfl⟩
    have hz : (w.alloc (.cells #[.int .i64 0, .int .i64 0, .slice none 0 0] 26 (0, 0))).heap.size = gb + 1 := by simp [hgb]
    have hgl : g < gb := by have := h.lt; omega
    rw [hgb] at hN
    obtain ⟨W1, hq_W1⟩ : ∃ W1, w.alloc (.cells #[.int .i64 0, .int .i64 0, .slice none 0 0] 26 (0, 0)) = W1 := ⟨_, rfl⟩
    rw [hq_W1] at hP hM hN hz
    replace hz := And.intro (Nat.le_of_eq hz) (Nat.le_of_eq hz.symm)
    replace h := hide h
    have hmf : ∀ (fn : Fn) (first cap : Array Value) (w : World), (Instr.makeFunc fn first cap).run Try.prog w = .ok (.func fn first cap) w := fun _ _ _ _ => rfl
    go_enter Try.func62, Try.ntmps62
    go_wp2_with fail
    clear hq_W1
    refine (paOp_any _ _).mono ?_
    rintro e W2 ⟨rfl, hb⟩
    have h2 := (unhide hP).below hb
    have hm := mop_below (g := g) hb
    clear hb
    replace hN := hide ((unhide hN).mop (unhide hP) hm)
    have hzz := hm.size
    replace hM := hide ((unhide hM).trans hm)
    replace hP := hide h2
    clear hm h2
    go_wp2_with fail
    refine (paOpen_deep (unhide hP) (opT [123])).mono ?_
    rintro e W3 hBad
    obtain rfl := hBad.1
    have hG := hide (hBad.pre (unhide hM))
    clear hBad
    go_wp2
    exact ⟨rfl, unhide hG⟩
  · simp only [hd40, if_false] at hne ⊢
    cases ho : opA L i [123] with
    | false =>
      simp only [ho, wantA, Bool.false_eq_true, if_false] at hne ⊢
      clear HB
      have hP := hide (h.alloc (.cells #[.int .i64 0, .int .i64 0, .slice none 0 0] 26 (0, 0))).1
      have hM := hide (h.alloc (.cells #[.int .i64 0, .int .i64 0, .slice none 0 0] 26 (0, 0))).2
      have hN := hide (nblk_new w 0 0 none 0 0)
      obtain ⟨gb, hgb⟩ : ∃ gb, w.heap.size = gb := ⟨_, rfl⟩
      have hz : (w.alloc (.cells #[.int .i64 0, .int .i64 0, .slice none 0 0] 26 (0, 0))).heap.size = gb + 1 := by simp [hgb]
      have hgl : g < gb := by have := h.lt; omega
      rw [hgb] at hN
      obtain ⟨W1, hq_W1⟩ : ∃ W1, w.alloc (.cells #[.int .i64 0, .int .i64 0, .slice none 0 0] 26 (0, 0)) = W1 := ⟨_, rfl⟩
      rw [hq_W1] at hP hM hN hz
      replace hz := And.intro (Nat.le_of_eq hz) (Nat.le_of_eq hz.symm)
      replace h := hide h
      have hmf : ∀ (fn : Fn) (first cap : Array Value) (w : World), (Instr.makeFunc fn first cap).run Try.prog w = .ok (.func fn first cap) w := fun _ _ _ _ => rfl
      go_enter Try.func62, Try.ntmps62
      go_wp2_with fail
      clear hq_W1
      refine (paOp_any _ _).mono ?_
      rintro e W2 ⟨rfl, hb⟩
      have h2 := (unhide hP).below hb
      have hm := mop_below (g := g) hb
      clear hb
      replace hN := hide ((unhide hN).mop (unhide hP) hm)
      have hzz := hm.size
      replace hM := hide ((unhide hM).trans hm)
      replace hP := hide h2
      clear hm h2
      go_wp2_with fail
      refine (paOpen_no (unhide hP) (by omega) (opT [123]) (by rw [eqB_op]; exact ho)).mono ?_
      rintro e W3 hBad
      obtain rfl := hBad.1
      have hG := hide (hBad.pre (unhide hM))
      clear hBad
      go_wp2
      exact ⟨rfl, unhide hG⟩
    | true =>
      simp only [ho, wantA, if_true] at hne ⊢
      have hne1 : brsA L f .nil (skN L (i + 1)) (d + 1) ≠ .out := fun e => hne (by rw [e]; rfl)
      have hH := hide (fun w h => HB w (i + 1) (d + 1) h (by omega) hne1)
      clear HB hne
      cases hr : brsA L f .nil (skN L (i + 1)) (d + 1) with
      | out => exact absurd hr hne1
      | bad j =>
        rw [hr] at hH
        simp only [PR.bind]
        have hP := hide (h.alloc (.cells #[.int .i64 0, .int .i64 0, .slice none 0 0] 26 (0, 0))).1
        have hM := hide (h.alloc (.cells #[.int .i64 0, .int .i64 0, .slice none 0 0] 26 (0, 0))).2
        have hN := hide (nblk_new w 0 0 none 0 0)
        obtain ⟨gb, hgb⟩ : ∃ gb, w.heap.size = gb := ⟨_, rfl⟩
        have hz : (w.alloc (.cells #[.int .i64 0, .int .i64 0, .slice none 0 0] 26 (0, 0))).heap.size = gb + 1 := by simp [hgb]
        have hgl : g < gb := by have := h.lt; omega
        rw [hgb] at hN
        obtain ⟨W1, hq_W1⟩ : ∃ W1, w.alloc (.cells #[.int .i64 0, .int .i64 0, .slice none 0 0] 26 (0, 0)) = W1 := ⟨_, rfl⟩
        rw [hq_W1] at hP hM hN hz
        replace hz := And.intro (Nat.le_of_eq hz) (Nat.le_of_eq hz.symm)
        replace h := hide h
        have hmf : ∀ (fn : Fn) (first cap : Array Value) (w : World), (Instr.makeFunc fn first cap).run Try.prog w = .ok (.func fn first cap) w := fun _ _ _ _ => rfl
        go_enter Try.func62, Try.ntmps62
        go_wp2_with fail
        clear hq_W1
        refine (paOp_any _ _).mono ?_
        rintro e W2 ⟨rfl, hb⟩
        have h2 := (unhide hP).below hb
        have hm := mop_below (g := g) hb
        clear hb
        replace hN := hide ((unhide hN).mop (unhide hP) hm)
        have hzz := hm.size
        replace hM := hide ((unhide hM).trans hm)
        replace hP := hide h2
        clear hm h2
        go_wp2_with fail
        refine (paOpen_yes (unhide hP) (by omega) (opT [123]) (by rw [eqB_op]; exact ho) (opA_lt ho)).mono ?_
        rintro e W3 ⟨rfl, h2, hm⟩
        replace hN := hide ((unhide hN).mop (unhide hP) hm)
        have hzz := hm.size
        replace hM := hide ((unhide hM).trans hm)
        replace hP := hide h2
        clear hm h2
        obtain ⟨b1, hq_b1⟩ : ∃ x, W3.heap.size = x := ⟨_, rfl⟩
        have hB := hide (nblk_new W3 10 i none 0 0)
        have hm := mop_below (g := g) (below_alloc W3 (.cells #[.int .i64 10, .int .i64 i, .slice none 0 0] 26 (0, 0)))
        have h2 := (unhide hP).below (below_alloc W3 (.cells #[.int .i64 10, .int .i64 i, .slice none 0 0] 26 (0, 0)))
        have hzs : (W3.alloc (.cells #[.int .i64 10, .int .i64 i, .slice none 0 0] 26 (0, 0))).heap.size = b1 + 1 := by simp [hq_b1]
        obtain ⟨W4, hq_W4⟩ : ∃ x, W3.alloc (.cells #[.int .i64 10, .int .i64 i, .slice none 0 0] 26 (0, 0)) = x := ⟨_, rfl⟩
        rw [hq_W4] at hB hm h2 hzs
        replace hzs := And.intro (Nat.le_of_eq hzs) (Nat.le_of_eq hzs.symm)
        rw [hq_b1] at hB
        replace hq_W4 := hide hq_W4
        replace hN := hide ((unhide hN).mop (unhide hP) hm)
        have hzz := hm.size
        replace hM := hide ((unhide hM).trans hm)
        replace hP := hide h2
        clear hm h2
        go_wp2_with fail
        rw [unhide hq_W4]
        clear hq_W4
        refine (unhide hH _ (unhide hP)).mono ?_
        rintro e W5 hBad
        obtain rfl := hBad.1
        have hG := hide (hBad.pre (unhide hM))
        clear hBad
        go_wp2
        exact ⟨rfl, unhide hG⟩
      | ok l j =>
        rw [hr] at hH
        simp only [PR.bind]
        have hP := hide (h.alloc (.cells #[.int .i64 0, .int .i64 0, .slice none 0 0] 26 (0, 0))).1
        have hM := hide (h.alloc (.cells #[.int .i64 0, .int .i64 0, .slice none 0 0] 26 (0, 0))).2
        have hN := hide (nblk_new w 0 0 none 0 0)
        obtain ⟨gb, hgb⟩ : ∃ gb, w.heap.size = gb := ⟨_, rfl⟩
        have hz : (w.alloc (.cells #[.int .i64 0, .int .i64 0, .slice none 0 0] 26 (0, 0))).heap.size = gb + 1 := by simp [hgb]
        have hgl : g < gb := by have := h.lt; omega
        rw [hgb] at hN
        obtain ⟨W1, hq_W1⟩ : ∃ W1, w.alloc (.cells #[.int .i64 0, .int .i64 0, .slice none 0 0] 26 (0, 0)) = W1 := ⟨_, rfl⟩
        rw [hq_W1] at hP hM hN hz
        replace hz := And.intro (Nat.le_of_eq hz) (Nat.le_of_eq hz.symm)
        replace h := hide h
        have hmf : ∀ (fn : Fn) (first cap : Array Value) (w : World), (Instr.makeFunc fn first cap).run Try.prog w = .ok (.func fn first cap) w := fun _ _ _ _ => rfl
        go_enter Try.func62, Try.ntmps62
        go_wp2_with fail
        clear hq_W1
        refine (paOp_any _ _).mono ?_
        rintro e W2 ⟨rfl, hb⟩
        have h2 := (unhide hP).below hb
        have hm := mop_below (g := g) hb
        clear hb
        replace hN := hide ((unhide hN).mop (unhide hP) hm)
        have hzz := hm.size
        replace hM := hide ((unhide hM).trans hm)
        replace hP := hide h2
        clear hm h2
        go_wp2_with fail
        refine (paOpen_yes (unhide hP) (by omega) (opT [123]) (by rw [eqB_op]; exact ho) (opA_lt ho)).mono ?_
        rintro e W3 ⟨rfl, h2, hm⟩
        replace hN := hide ((unhide hN).mop (unhide hP) hm)
        have hzz := hm.size
        replace hM := hide ((unhide hM).trans hm)
        replace hP := hide h2
        clear hm h2
        obtain ⟨b1, hq_b1⟩ : ∃ x, W3.heap.size = x := ⟨_, rfl⟩
        have hB := hide (nblk_new W3 10 i none 0 0)
        have hm := mop_below (g := g) (below_alloc W3 (.cells #[.int .i64 10, .int .i64 i, .slice none 0 0] 26 (0, 0)))
        have h2 := (unhide hP).below (below_alloc W3 (.cells #[.int .i64 10, .int .i64 i, .slice none 0 0] 26 (0, 0)))
        have hzs : (W3.alloc (.cells #[.int .i64 10, .int .i64 i, .slice none 0 0] 26 (0, 0))).heap.size = b1 + 1 := by simp [hq_b1]
        obtain ⟨W4, hq_W4⟩ : ∃ x, W3.alloc (.cells #[.int .i64 10, .int .i64 i, .slice none 0 0] 26 (0, 0)) = x := ⟨_, rfl⟩
        rw [hq_W4] at hB hm h2 hzs
        replace hzs := And.intro (Nat.le_of_eq hzs) (Nat.le_of_eq hzs.symm)
        rw [hq_b1] at hB
        replace hq_W4 := hide hq_W4
        replace hN := hide ((unhide hN).mop (unhide hP) hm)
        have hzz := hm.size
        replace hM := hide ((unhide hM).trans hm)
        replace hP := hide h2
        clear hm h2
        go_wp2_with fail
        rw [unhide hq_W4]
        clear hq_W4
        refine (unhide hH _ (unhide hP)).mono ?_
        rintro e W5 ⟨a2, c2, rfl, hs, h2, hm⟩
        have hzs := hm.size
        have hs2 := hide (hs.mono (P' := fun x => gb < x ∧ x < W5.heap.size ∧ x ≠ b1) (fun x hx => by have := (unhide hN).lt; have := (unhide hB).lt; have e1 := hx.1; have e2 := hx.lt; exact ⟨by omega, by omega, by omega⟩))
        clear hs
        replace hN := hide ((unhide hN).mop (unhide hP) hm)
        replace hB := hide ((unhide hB).mop (unhide hP) hm)
        have hzz := hm.size
        replace hM := hide ((unhide hM).trans hm)
        replace hP := hide h2
        clear hm h2
        obtain ⟨p0_hB, p1_hB, p2_hB⟩ := (unhide hB).box
        have f0_hB := (unhide hB).frozen 0
        have f1_hB := (unhide hB).frozen 1
        have f2_hB := (unhide hB).frozen 2
        obtain ⟨h2, hM2, hB2, hh⟩ := kid_set (unhide hP) (unhide hM) (unhide hB) (by omega) a2 l.len c2
        have hzz : (W5.setCell ⟨b1, 2, none⟩ (.slice a2 l.len c2)).heap.size = W5.heap.size := by simp
        obtain ⟨W6, hq_W6⟩ : ∃ x, W5.setCell ⟨b1, 2, none⟩ (.slice a2 l.len c2) = x := ⟨_, rfl⟩
        rw [hq_W6] at h2 hM2 hB2 hh hzz
        replace hzz := And.intro (Nat.le_of_eq hzz) (Nat.le_of_eq hzz.symm)
        replace hN := hide ((unhide hN).same (hh _ (by omega)))
        replace hs2 := hide ((unhide hs2).keep (w' := W6) (fun x hx => hh x (by have e1 := hx.1; omega)))
        replace hB := hide hB2
        replace hM := hide hM2
        replace hP := hide h2
        clear hB2 hM2 h2 hh
        go_wp2_with fail
        clear hq_W6
        refine (paLeave_any (unhide hP) (by omega)).mono ?_
        rintro e W7 ⟨rfl, h2, hm⟩
        replace hN := hide ((unhide hN).mop (unhide hP) hm)
        replace hB := hide ((unhide hB).mop (unhide hP) hm)
        replace hs2 := hide ((unhide hs2).mop (unhide hP) hm)
        have hzz := hm.size
        replace hM := hide ((unhide hM).trans hm)
        replace hP := hide h2
        clear hm h2
        obtain ⟨p0_hB, p1_hB, p2_hB⟩ := (unhide hB).box
        have f0_hB := (unhide hB).frozen 0
        have f1_hB := (unhide hB).frozen 1
        have f2_hB := (unhide hB).frozen 2
        obtain ⟨p0_hN, p1_hN, p2_hN⟩ := (unhide hN).box
        have f0_hN := (unhide hN).frozen 0
        have f1_hN := (unhide hN).frozen 1
        have f2_hN := (unhide hN).frozen 2
        have hF := hide (res_fin (k := 10) (t := i) (a := a2) (m := l.len) (c := c2) (f := l) (B := gb) (w := w) (Nat.le_refl gb) (by omega) (unhide hN) ((unhide hs2).mono (fun x hx => by have e1 := hx.1; exact ⟨by omega, by omega⟩)) (unhide hP) (unhide hM))
        go_wp2
        obtain ⟨q1, q2, q3, q4⟩ := unhide hF
        obtain ⟨u0, u1, u2⟩ := q1.box
        refine bodyPost_ret (v := .agg #[.int .i64 (10), .int .i64 (i), .slice (a2) (l.len) (c2)]) (by simp [results, Try.results62, go_sem, u0, u1, u2]) rfl ?_
        exact ⟨_, _, _, rfl, (by first | exact q2 | (rw [hgb]; exact q2)), q3, q4⟩
end Go.Proofs.Ytdjjbdmnjegfjaa

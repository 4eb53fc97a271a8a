/-
  1 texts in one.
-/
import Derived.Test.YtiknnobgoamgcaaGreatDoorB08
/-
  The parser: semicolons that say nothing; braces; a block.
-/
namespace Go.Proofs.YtiknnobgoamgcaaGreatDoor
open Go.RowKit Go.Lib Go.Sort
set_option linter.unusedSimpArgs false
set_option linter.unusedVariables false
theorem skN_step {L : List Tk} {j : Nat} (h : knd L j 6 = true) : skN L j = skN L (j + 1) := by
 have hj := knd_lt h (by decide)
 unfold skN
 obtain ⟨m, hm⟩ : ∃ m, L.length - j = m + 1 := ⟨L.length - j - 1, by omega⟩
 rw [hm, show L.length - (j + 1) = m by omega]
 simp only [skF, h, if_true]
theorem skN_stop {L : List Tk} {j : Nat} (h : knd L j 6 = false) : skN L j = j := by
 unfold skN
 cases L.length - j with
 | zero => rfl
 | succ m => simp [skF, h]
set_option maxHeartbeats 4000000 in
set_option maxRecDepth 100000 in
theorem paSkip_any {g : Nat} {tv : Value} {L : List Tk} {i d : Nat} {w : World} (h : PaW g tv L i d w) : Calls Tryz.prog 86 #[.pointer (some ⟨g, 0, none⟩)] w fun e w' => OkV g tv L (.tuple #[]) (skN L i) d w e w' := by
 have hM0 := zH (Moves.refl (fun x => x = g) w)
 replace h := zH h
 obtain ⟨R, hR⟩ : ∃ R, skN L i = R := ⟨_, rfl⟩
 rw [hR]
 go_enter Tryz.func86, Tryz.ntmps86
 go_wp2
 go_loopg [] L.length (fun gf wx => ∃ j : Nat, PaW g tv L j d wx ∧ MoP g w wx ∧ skN L j = R ∧ L.length - j ≤ gf)
 case atStart => exact ⟨i, uH h, uH hM0, hR, by omega⟩
 case round =>
  obtain ⟨j, hP, hM, hsj, hgf⟩ := hrel
  replace hP := zH hP
  replace hM := zH hM
  clear hM0 hR
  cases hk : knd L j 6 with
  | true =>
   have hj := knd_lt hk (by decide)
   have hs' := zH ((skN_step hk).symm.trans hsj)
   replace hsj := zH hsj
   obtain ⟨g', rfl⟩ : ∃ g', gk = g' + 1 := ⟨gk - 1, by omega⟩
   go_wp2_with fail
   have hK := paIsKind_any (uH hP) 6
   rw [hk] at hK
   refine (hK).mono ?_
   rintro e W20 ⟨rfl, hb⟩
   have h2 := (uH hP).below hb
   have hm := mop_below (g := g) hb
   clear hb
   have hzz := hm.size
   replace hM := zH ((uH hM).trans hm)
   replace hP := zH h2
   clear hm h2
   go_wp2_with fail
   refine (paNext_any (uH hP) hj).mono ?_
   rintro e W21 ⟨rfl, h2, hm⟩
   have hzz := hm.size
   replace hM := zH ((uH hM).trans hm)
   replace hP := zH h2
   clear hm h2
   have hX := zH (And.intro (uH hP) (uH hM))
   go_wp2
   go_roundg g'
   case measure => omega
   case rel => exact ⟨j + 1, (uH hX).1, (uH hX).2, uH hs', by omega⟩
  | false =>
   replace hsj := zH hsj
   go_wp2_with fail
   have hK := paIsKind_any (uH hP) 6
   rw [hk] at hK
   refine (hK).mono ?_
   rintro e W20 ⟨rfl, hb⟩
   have h2 := (uH hP).below hb
   have hm := mop_below (g := g) hb
   clear hb
   have hzz := hm.size
   replace hM := zH ((uH hM).trans hm)
   replace hP := zH h2
   clear hm h2
   go_wp2
   have e := uH hsj
   rw [skN_stop hk] at e
   subst e
   exact bodyPost_ret (results_none rfl _ _ _) rfl ⟨rfl, uH hP, uH hM⟩
set_option maxHeartbeats 4000000 in
set_option maxRecDepth 100000 in
theorem paBraces_step {g : Nat} {tv : Value} {L : List Tk} {i d : Nat} {w : World} (h : PaW g tv L i d w) {f : Nat} (HA : ∀ f', f' < f → ∀ (w : World) (i : Nat), PaW g tv L i d w → stmA L f' i d ≠ .out → Calls Tryz.prog 126 #[.pointer (some ⟨g, 0, none⟩)] w fun e w' => ResN w.heap.size g tv L d w (stmA L f' i d) e w') (hf : f ≤ 1000000) (hne : brsA L f .nil (skN L i) d ≠ .out) :
  Calls Tryz.prog 107 #[.pointer (some ⟨g, 0, none⟩), .func (.func 126) #[.pointer (some ⟨g, 0, none⟩)] #[]] w fun e w' => ResF w.heap.size g tv L d w (brsA L f .nil (skN L i) d) e w' := by
 have HH := zH HA
 have h0 := zH h
 clear HA
 obtain ⟨R, hR⟩ : ∃ R, brsA L f .nil (skN L i) d = R := ⟨_, rfl⟩
 rw [hR] at hne ⊢
 have hP := zH h
 have hM := zH (Moves.refl (fun x => x = g) w)
 go_enter Tryz.func107, Tryz.ntmps107
 go_wp2_with fail
 refine (paSkip_any (uH hP)).mono ?_
 rintro e W2 ⟨rfl, h2, hm⟩
 have hzz := hm.size
 replace hM := zH ((uH hM).trans hm)
 replace hP := zH h2
 clear hm h2
 go_upto_region 3 with fail
 go_loopg [5] f (fun gf s5 wx => ∃ (v5 : Value) (l : F) (j : Nat), v5 = s5 ∧ RowP (fun x => w.heap.size ≤ x) wx w.heap.size s5 l ∧ PaW g tv L j d wx ∧ MoP g w wx ∧ brsA L gf l j d = R ∧ l.len + gf ≤ f ∧ gf ≤ f)
 case atStart => exact ⟨_, _, _, rfl, rowP_nil _ _ _, uH hP, uH hM, hR, by simp only [F.len]; omega, Nat.le_refl _⟩
 case round =>
  obtain ⟨v5, l, j, rfl, hRw, hP, hM, hE, hlf, hgf⟩ := hrel
  cases gk with
  | zero =>
   unfold brsA at hE
   exact absurd hE.symm hne
  | succ g' =>
   unfold brsA at hE
   replace hRw := zH hRw
   replace hP := zH hP
   replace hM := zH hM
   clear hR
   cases ho : opA L j [125] with
   | true =>
    simp only [ho, if_true] at hE
    subst hE
    go_wp2_with fail
    refine (paOp_any _ _).mono ?_
    rintro e W20 ⟨rfl, hb⟩
    have h2 := (uH hP).below hb
    have hm := mop_below (g := g) hb
    clear hb
    replace hRw := zH ((uH hRw).mop (uH hP) hm)
    have hzz := hm.size
    replace hM := zH ((uH hM).trans hm)
    replace hP := zH h2
    clear hm h2
    go_wp2_with fail
    have hK := paIs_any (uH hP) (opT [125])
    rw [eqB_op, ho] at hK
    refine (hK).mono ?_
    rintro e W21 ⟨rfl, hb⟩
    have h2 := (uH hP).below hb
    have hm := mop_below (g := g) hb
    clear hb
    replace hRw := zH ((uH hRw).mop (uH hP) hm)
    have hzz := hm.size
    replace hM := zH ((uH hM).trans hm)
    replace hP := zH h2
    clear hm h2
    go_wp2_with fail
    refine (paOp_any _ _).mono ?_
    rintro e W22 ⟨rfl, hb⟩
    have h2 := (uH hP).below hb
    have hm := mop_below (g := g) hb
    clear hb
    replace hRw := zH ((uH hRw).mop (uH hP) hm)
    have hzz := hm.size
    replace hM := zH ((uH hM).trans hm)
    replace hP := zH h2
    clear hm h2
    go_wp2_with fail
    refine (paWant_yes (uH hP) (opT [125]) (by rw [eqB_op]; exact ho) (opA_lt ho)).mono ?_
    rintro e W23 ⟨rfl, h2, hm⟩
    replace hRw := zH ((uH hRw).mop (uH hP) hm)
    have hzz := hm.size
    replace hM := zH ((uH hM).trans hm)
    replace hP := zH h2
    clear hm h2
    obtain ⟨av, cv, rfl, hsl⟩ := (uH hRw).sl (fun _ h => h)
    replace hsl := zH hsl
    clear hRw
    go_wp2
    go_ret
    exact ⟨av, cv, rfl, uH hsl, uH hP, uH hM⟩
   | false =>
    simp only [ho, Bool.false_eq_true, if_false] at hE
    have hne1 : stmA L g' j d ≠ .out := fun e => hne (by rw [← hE, e]; rfl)
    have hH := zH (fun w h => uH HH g' (by omega) w j h hne1)
    cases hr : stmA L g' j d with
    | out => exact absurd hr hne1
    | bad j2 =>
     rw [hr] at hE hH
     simp only [PR.bind] at hE
     subst hE
     go_wp2_with fail
     refine (paOp_any _ _).mono ?_
     rintro e W20 ⟨rfl, hb⟩
     have h2 := (uH hP).below hb
     have hm := mop_below (g := g) hb
     clear hb
     replace hRw := zH ((uH hRw).mop (uH hP) hm)
     have hzz := hm.size
     replace hM := zH ((uH hM).trans hm)
     replace hP := zH h2
     clear hm h2
     go_wp2_with fail
     have hK := paIs_any (uH hP) (opT [125])
     rw [eqB_op, ho] at hK
     refine (hK).mono ?_
     rintro e W21 ⟨rfl, hb⟩
     have h2 := (uH hP).below hb
     have hm := mop_below (g := g) hb
     clear hb
     replace hRw := zH ((uH hRw).mop (uH hP) hm)
     have hzz := hm.size
     replace hM := zH ((uH hM).trans hm)
     replace hP := zH h2
     clear hm h2
     go_wp2_with fail
     refine (uH hH _ (uH hP)).mono ?_
     rintro e W22 hBad
     obtain rfl := hBad.1
     have hG := zH (hBad.pre (uH hM))
     clear hBad
     go_wp2
     exact ⟨rfl, uH hG⟩
    | ok n j2 =>
     obtain ⟨nk, nt, nc⟩ := n
     rw [hr] at hE hH
     simp only [PR.bind, snoc, one] at hE
     cases ho2 : opA L j2 [125] with
     | true =>
      simp only [ho2, if_true] at hE
      go_wp2_with fail
      refine (paOp_any _ _).mono ?_
      rintro e W20 ⟨rfl, hb⟩
      have h2 := (uH hP).below hb
      have hm := mop_below (g := g) hb
      clear hb
      replace hRw := zH ((uH hRw).mop (uH hP) hm)
      have hzz := hm.size
      replace hM := zH ((uH hM).trans hm)
      replace hP := zH h2
      clear hm h2
      go_wp2_with fail
      have hK := paIs_any (uH hP) (opT [125])
      rw [eqB_op, ho] at hK
      refine (hK).mono ?_
      rintro e W21 ⟨rfl, hb⟩
      have h2 := (uH hP).below hb
      have hm := mop_below (g := g) hb
      clear hb
      replace hRw := zH ((uH hRw).mop (uH hP) hm)
      have hzz := hm.size
      replace hM := zH ((uH hM).trans hm)
      replace hP := zH h2
      clear hm h2
      go_wp2_with fail
      refine (uH hH _ (uH hP)).mono ?_
      rintro e W30 ⟨a2, m2, c2, rfl, hs, h2, hm⟩
      dsimp only at hs
      have hRl := (uH hRw).lt
      have hRw2 := (uH hRw).mop (uH hP) hm
      have hwl := (uH hM).size
      replace hM := (uH hM).trans hm
      have hzs := hm.size
      have hz31 := hM.size
      have hL2 : SlQ (fun x => w.heap.size ≤ x ∧ v5.ownBlock ≠ some x ∧ x < (W30.alloc (.cells #[.int .i64 nk, .int .i64 nt, .slice a2 m2 c2] 24 (0, 0))).heap.size) (W30.alloc (.cells #[.int .i64 nk, .int .i64 nt, .slice a2 m2 c2] 24 (0, 0))) (some ⟨W30.heap.size, 0, none⟩) 1 1 (.cons nk nt nc .nil) :=
       (lit1_sl (P := fun x => w.heap.size ≤ x ∧ v5.ownBlock ≠ some x) W30 nk nt a2 m2 c2 nc (hs.mono (fun x hx => ⟨by have e1 := hx.1; omega, fun e => by have := hRl x e; have e1 := hx.1; omega⟩)) ⟨hz31, fun e => by have := hRl _ e; omega⟩).mono (fun x hx => ⟨hx.1.1, hx.1.2, hx.lt⟩)
      have hRw3 := hRw2.below (below_alloc W30 (.cells #[.int .i64 nk, .int .i64 nt, .slice a2 m2 c2] 24 (0, 0)))
      have hP3 := zH (h2.below (below_alloc W30 (.cells #[.int .i64 nk, .int .i64 nt, .slice a2 m2 c2] 24 (0, 0))))
      have hM3 := zH (hM.trans (mop_below (g := g) (below_alloc W30 (.cells #[.int .i64 nk, .int .i64 nt, .slice a2 m2 c2] 24 (0, 0)))))
      have hz32 : w.heap.size ≤ (W30.alloc (.cells #[.int .i64 nk, .int .i64 nt, .slice a2 m2 c2] 24 (0, 0))).heap.size := by simp; omega
      clear hs h2 hm hM hRw hRw2 hP
      obtain ⟨gl2, hgl2⟩ : ∃ x, W30.heap.size = x := ⟨_, rfl⟩
      obtain ⟨WA, hq_WA⟩ : ∃ x, W30.alloc (.cells #[.int .i64 nk, .int .i64 nt, .slice a2 m2 c2] 24 (0, 0)) = x := ⟨_, rfl⟩
      rw [hq_WA] at hL2 hRw3 hP3 hM3 hz32
      rw [hgl2] at hL2
      replace hL2 := zH hL2
      replace hRw3 := zH hRw3
      have hE' := zH hE
      go_wp2_with (at_builtin; refine wpList_append_rowP rfl (.tmp 12) (.tmp 15) rfl rfl (uH hRw3) rfl (uH hL2) (by omega) hz32 ?_)
      intro v4 W40 hR4 hb4 hg4 hl4
      have hP := zH ((uH hP3).belowB (uH h0) hb4)
      have hM := zH (mop_belowB (uH h0) hb4 hz32 (uH hM3))
      have hRw := zH hR4
      clear hb4 hg4 hl4 hL2 hRw3 hP3 hM3 hq_WA hgl2 hR4
      go_wp2_with fail
      refine (paOp_any _ _).mono ?_
      rintro e W41 ⟨rfl, hb⟩
      have h2 := (uH hP).below hb
      have hm := mop_below (g := g) hb
      clear hb
      replace hRw := zH ((uH hRw).mop (uH hP) hm)
      have hzz := hm.size
      replace hM := zH ((uH hM).trans hm)
      replace hP := zH h2
      clear hm h2
      go_wp2_with fail
      have hK := paIs_any (uH hP) (opT [125])
      rw [eqB_op, ho2] at hK
      refine (hK).mono ?_
      rintro e W42 ⟨rfl, hb⟩
      have h2 := (uH hP).below hb
      have hm := mop_below (g := g) hb
      clear hb
      replace hRw := zH ((uH hRw).mop (uH hP) hm)
      have hzz := hm.size
      replace hM := zH ((uH hM).trans hm)
      replace hP := zH h2
      clear hm h2
      go_wp2_with fail
      refine (paSkip_any (uH hP)).mono ?_
      rintro e W43 ⟨rfl, h2, hm⟩
      replace hRw := zH ((uH hRw).mop (uH hP) hm)
      have hzz := hm.size
      replace hM := zH ((uH hM).trans hm)
      replace hP := zH h2
      clear hm h2
      have hX := zH (And.intro (uH hRw) (And.intro (uH hP) (uH hM)))
      clear hE
      go_wp2
      go_roundg g'
      case measure => omega
      case rel => exact ⟨_, _, _, rfl, (uH hX).1, (uH hX).2.1, (uH hX).2.2, uH hE', by rw [F.len_app]; simp only [F.len]; omega, by omega⟩
     | false =>
      simp only [ho2, Bool.false_eq_true, if_false, wantA] at hE
      cases hk2 : knd L j2 6 with
      | false =>
       simp only [hk2, Bool.false_eq_true, if_false] at hE
       subst hE
       go_wp2_with fail
       refine (paOp_any _ _).mono ?_
       rintro e W20 ⟨rfl, hb⟩
       have h2 := (uH hP).below hb
       have hm := mop_below (g := g) hb
       clear hb
       replace hRw := zH ((uH hRw).mop (uH hP) hm)
       have hzz := hm.size
       replace hM := zH ((uH hM).trans hm)
       replace hP := zH h2
       clear hm h2
       go_wp2_with fail
       have hK := paIs_any (uH hP) (opT [125])
       rw [eqB_op, ho] at hK
       refine (hK).mono ?_
       rintro e W21 ⟨rfl, hb⟩
       have h2 := (uH hP).below hb
       have hm := mop_below (g := g) hb
       clear hb
       replace hRw := zH ((uH hRw).mop (uH hP) hm)
       have hzz := hm.size
       replace hM := zH ((uH hM).trans hm)
       replace hP := zH h2
       clear hm h2
       go_wp2_with fail
       refine (uH hH _ (uH hP)).mono ?_
       rintro e W30 ⟨a2, m2, c2, rfl, hs, h2, hm⟩
       dsimp only at hs
       have hRl := (uH hRw).lt
       have hRw2 := (uH hRw).mop (uH hP) hm
       have hwl := (uH hM).size
       replace hM := (uH hM).trans hm
       have hzs := hm.size
       have hz31 := hM.size
       have hL2 : SlQ (fun x => w.heap.size ≤ x ∧ v5.ownBlock ≠ some x ∧ x < (W30.alloc (.cells #[.int .i64 nk, .int .i64 nt, .slice a2 m2 c2] 24 (0, 0))).heap.size) (W30.alloc (.cells #[.int .i64 nk, .int .i64 nt, .slice a2 m2 c2] 24 (0, 0))) (some ⟨W30.heap.size, 0, none⟩) 1 1 (.cons nk nt nc .nil) :=
        (lit1_sl (P := fun x => w.heap.size ≤ x ∧ v5.ownBlock ≠ some x) W30 nk nt a2 m2 c2 nc (hs.mono (fun x hx => ⟨by have e1 := hx.1; omega, fun e => by have := hRl x e; have e1 := hx.1; omega⟩)) ⟨hz31, fun e => by have := hRl _ e; omega⟩).mono (fun x hx => ⟨hx.1.1, hx.1.2, hx.lt⟩)
       have hRw3 := hRw2.below (below_alloc W30 (.cells #[.int .i64 nk, .int .i64 nt, .slice a2 m2 c2] 24 (0, 0)))
       have hP3 := zH (h2.below (below_alloc W30 (.cells #[.int .i64 nk, .int .i64 nt, .slice a2 m2 c2] 24 (0, 0))))
       have hM3 := zH (hM.trans (mop_below (g := g) (below_alloc W30 (.cells #[.int .i64 nk, .int .i64 nt, .slice a2 m2 c2] 24 (0, 0)))))
       have hz32 : w.heap.size ≤ (W30.alloc (.cells #[.int .i64 nk, .int .i64 nt, .slice a2 m2 c2] 24 (0, 0))).heap.size := by simp; omega
       clear hs h2 hm hM hRw hRw2 hP
       obtain ⟨gl2, hgl2⟩ : ∃ x, W30.heap.size = x := ⟨_, rfl⟩
       obtain ⟨WA, hq_WA⟩ : ∃ x, W30.alloc (.cells #[.int .i64 nk, .int .i64 nt, .slice a2 m2 c2] 24 (0, 0)) = x := ⟨_, rfl⟩
       rw [hq_WA] at hL2 hRw3 hP3 hM3 hz32
       rw [hgl2] at hL2
       replace hL2 := zH hL2
       replace hRw3 := zH hRw3
       go_wp2_with (at_builtin; refine wpList_append_rowP rfl (.tmp 12) (.tmp 15) rfl rfl (uH hRw3) rfl (uH hL2) (by omega) hz32 ?_)
       intro v4 W40 hR4 hb4 hg4 hl4
       have hP := zH ((uH hP3).belowB (uH h0) hb4)
       have hM := zH (mop_belowB (uH h0) hb4 hz32 (uH hM3))
       have hRw := zH hR4
       clear hb4 hg4 hl4 hL2 hRw3 hP3 hM3 hq_WA hgl2 hR4
       go_wp2_with fail
       refine (paOp_any _ _).mono ?_
       rintro e W41 ⟨rfl, hb⟩
       have h2 := (uH hP).below hb
       have hm := mop_below (g := g) hb
       clear hb
       replace hRw := zH ((uH hRw).mop (uH hP) hm)
       have hzz := hm.size
       replace hM := zH ((uH hM).trans hm)
       replace hP := zH h2
       clear hm h2
       go_wp2_with fail
       have hK := paIs_any (uH hP) (opT [125])
       rw [eqB_op, ho2] at hK
       refine (hK).mono ?_
       rintro e W42 ⟨rfl, hb⟩
       have h2 := (uH hP).below hb
       have hm := mop_below (g := g) hb
       clear hb
       replace hRw := zH ((uH hRw).mop (uH hP) hm)
       have hzz := hm.size
       replace hM := zH ((uH hM).trans hm)
       replace hP := zH h2
       clear hm h2
       go_wp2_with fail
       refine (paWantKind_no (uH hP) 6 hk2).mono ?_
       rintro e W43 hBad
       obtain rfl := hBad.1
       have hG := zH (hBad.pre (uH hM))
       clear hBad
       go_wp2
       exact ⟨rfl, uH hG⟩
      | true =>
       simp only [hk2, if_true] at hE
       go_wp2_with fail
       refine (paOp_any _ _).mono ?_
       rintro e W20 ⟨rfl, hb⟩
       have h2 := (uH hP).below hb
       have hm := mop_below (g := g) hb
       clear hb
       replace hRw := zH ((uH hRw).mop (uH hP) hm)
       have hzz := hm.size
       replace hM := zH ((uH hM).trans hm)
       replace hP := zH h2
       clear hm h2
       go_wp2_with fail
       have hK := paIs_any (uH hP) (opT [125])
       rw [eqB_op, ho] at hK
       refine (hK).mono ?_
       rintro e W21 ⟨rfl, hb⟩
       have h2 := (uH hP).below hb
       have hm := mop_below (g := g) hb
       clear hb
       replace hRw := zH ((uH hRw).mop (uH hP) hm)
       have hzz := hm.size
       replace hM := zH ((uH hM).trans hm)
       replace hP := zH h2
       clear hm h2
       go_wp2_with fail
       refine (uH hH _ (uH hP)).mono ?_
       rintro e W30 ⟨a2, m2, c2, rfl, hs, h2, hm⟩
       dsimp only at hs
       have hRl := (uH hRw).lt
       have hRw2 := (uH hRw).mop (uH hP) hm
       have hwl := (uH hM).size
       replace hM := (uH hM).trans hm
       have hzs := hm.size
       have hz31 := hM.size
       have hL2 : SlQ (fun x => w.heap.size ≤ x ∧ v5.ownBlock ≠ some x ∧ x < (W30.alloc (.cells #[.int .i64 nk, .int .i64 nt, .slice a2 m2 c2] 24 (0, 0))).heap.size) (W30.alloc (.cells #[.int .i64 nk, .int .i64 nt, .slice a2 m2 c2] 24 (0, 0))) (some ⟨W30.heap.size, 0, none⟩) 1 1 (.cons nk nt nc .nil) :=
        (lit1_sl (P := fun x => w.heap.size ≤ x ∧ v5.ownBlock ≠ some x) W30 nk nt a2 m2 c2 nc (hs.mono (fun x hx => ⟨by have e1 := hx.1; omega, fun e => by have := hRl x e; have e1 := hx.1; omega⟩)) ⟨hz31, fun e => by have := hRl _ e; omega⟩).mono (fun x hx => ⟨hx.1.1, hx.1.2, hx.lt⟩)
       have hRw3 := hRw2.below (below_alloc W30 (.cells #[.int .i64 nk, .int .i64 nt, .slice a2 m2 c2] 24 (0, 0)))
       have hP3 := zH (h2.below (below_alloc W30 (.cells #[.int .i64 nk, .int .i64 nt, .slice a2 m2 c2] 24 (0, 0))))
       have hM3 := zH (hM.trans (mop_below (g := g) (below_alloc W30 (.cells #[.int .i64 nk, .int .i64 nt, .slice a2 m2 c2] 24 (0, 0)))))
       have hz32 : w.heap.size ≤ (W30.alloc (.cells #[.int .i64 nk, .int .i64 nt, .slice a2 m2 c2] 24 (0, 0))).heap.size := by simp; omega
       clear hs h2 hm hM hRw hRw2 hP
       obtain ⟨gl2, hgl2⟩ : ∃ x, W30.heap.size = x := ⟨_, rfl⟩
       obtain ⟨WA, hq_WA⟩ : ∃ x, W30.alloc (.cells #[.int .i64 nk, .int .i64 nt, .slice a2 m2 c2] 24 (0, 0)) = x := ⟨_, rfl⟩
       rw [hq_WA] at hL2 hRw3 hP3 hM3 hz32
       rw [hgl2] at hL2
       replace hL2 := zH hL2
       replace hRw3 := zH hRw3
       have hE' := zH hE
       go_wp2_with (at_builtin; refine wpList_append_rowP rfl (.tmp 12) (.tmp 15) rfl rfl (uH hRw3) rfl (uH hL2) (by omega) hz32 ?_)
       intro v4 W40 hR4 hb4 hg4 hl4
       have hP := zH ((uH hP3).belowB (uH h0) hb4)
       have hM := zH (mop_belowB (uH h0) hb4 hz32 (uH hM3))
       have hRw := zH hR4
       clear hb4 hg4 hl4 hL2 hRw3 hP3 hM3 hq_WA hgl2 hR4
       go_wp2_with fail
       refine (paOp_any _ _).mono ?_
       rintro e W41 ⟨rfl, hb⟩
       have h2 := (uH hP).below hb
       have hm := mop_below (g := g) hb
       clear hb
       replace hRw := zH ((uH hRw).mop (uH hP) hm)
       have hzz := hm.size
       replace hM := zH ((uH hM).trans hm)
       replace hP := zH h2
       clear hm h2
       go_wp2_with fail
       have hK := paIs_any (uH hP) (opT [125])
       rw [eqB_op, ho2] at hK
       refine (hK).mono ?_
       rintro e W42 ⟨rfl, hb⟩
       have h2 := (uH hP).below hb
       have hm := mop_below (g := g) hb
       clear hb
       replace hRw := zH ((uH hRw).mop (uH hP) hm)
       have hzz := hm.size
       replace hM := zH ((uH hM).trans hm)
       replace hP := zH h2
       clear hm h2
       go_wp2_with fail
       refine (paWantKind_yes (uH hP) 6 hk2 (by decide)).mono ?_
       rintro e W43 ⟨rfl, h2, hm⟩
       replace hRw := zH ((uH hRw).mop (uH hP) hm)
       have hzz := hm.size
       replace hM := zH ((uH hM).trans hm)
       replace hP := zH h2
       clear hm h2
       go_wp2_with fail
       refine (paSkip_any (uH hP)).mono ?_
       rintro e W44 ⟨rfl, h2, hm⟩
       replace hRw := zH ((uH hRw).mop (uH hP) hm)
       have hzz := hm.size
       replace hM := zH ((uH hM).trans hm)
       replace hP := zH h2
       clear hm h2
       have hX := zH (And.intro (uH hRw) (And.intro (uH hP) (uH hM)))
       clear hE
       go_wp2
       go_roundg g'
       case measure => omega
       case rel => exact ⟨_, _, _, rfl, (uH hX).1, (uH hX).2.1, (uH hX).2.2, uH hE', by rw [F.len_app]; simp only [F.len]; omega, by omega⟩
set_option maxHeartbeats 4000000 in
set_option maxRecDepth 100000 in
theorem paBlock_step {g : Nat} {tv : Value} {L : List Tk} {i d : Nat} {w : World} (h : PaW g tv L i d w) {f : Nat} (HB : ∀ (w : World) (i d : Nat), PaW g tv L i d w → d ≤ 40 → brsA L f .nil (skN L i) d ≠ .out → Calls Tryz.prog 107 #[.pointer (some ⟨g, 0, none⟩), .func (.func 126) #[.pointer (some ⟨g, 0, none⟩)] #[]] w fun e w' => ResF w.heap.size g tv L d w (brsA L f .nil (skN L i) d) e w') (hd : d ≤ 40) (hne : blkA L (f + 1) i d ≠ .out) :
  Calls Tryz.prog 113 #[.pointer (some ⟨g, 0, none⟩)] w fun e w' => ResN w.heap.size g tv L d w (blkA L (f + 1) i d) e w' := by
 unfold blkA at hne ⊢
 by_cases hd40 : d = 40
 ·
  subst hd40
  simp only [if_true] at hne ⊢
  clear HB
  have hP := zH (h.alloc (.cells #[.int .i64 0, .int .i64 0, .slice none 0 0] 24 (0, 0))).1
  have hM := zH (h.alloc (.cells #[.int .i64 0, .int .i64 0, .slice none 0 0] 24 (0, 0))).2
  have hN := zH (nblk_new w 0 0 none 0 0)
  obtain ⟨gb, hgb⟩ : ∃ gb, w.heap.size = gb := ⟨_, rfl⟩
  have hz : (w.alloc (.cells #[.int .i64 0, .int .i64 0, .slice none 0 0] 24 (0, 0))).heap.size = gb + 1 := by simp [hgb]
  have hgl : g < gb := by have := h.lt; omega
  rw [hgb] at hN
  obtain ⟨W1, hq_W1⟩ : ∃ W1, w.alloc (.cells #[.int .i64 0, .int .i64 0, .slice none 0 0] 24 (0, 0)) = W1 := ⟨_, rfl⟩
  rw [hq_W1] at hP hM hN hz
  replace hz := And.intro (Nat.le_of_eq hz) (Nat.le_of_eq hz.symm)
  replace h := zH h
  have hmf : ∀ (fn : Fn) (first cap : Array Value) (w : World), (Instr.makeFunc fn first cap).run Tryz.prog w = .ok (.func fn first cap) w := fun _ _ _ _ => rfl
  go_enter Tryz.func113, Tryz.ntmps113
  go_wp2_with fail
  clear hq_W1
  refine (paOp_any _ _).mono ?_
  rintro e W2 ⟨rfl, hb⟩
  have h2 := (uH hP).below hb
  have hm := mop_below (g := g) hb
  clear hb
  replace hN := zH ((uH hN).mop (uH hP) hm)
  have hzz := hm.size
  replace hM := zH ((uH hM).trans hm)
  replace hP := zH h2
  clear hm h2
  go_wp2_with fail
  refine (paOpen_deep (uH hP) (opT [123])).mono ?_
  rintro e W3 hBad
  obtain rfl := hBad.1
  have hG := zH (hBad.pre (uH hM))
  clear hBad
  go_wp2
  exact ⟨rfl, uH hG⟩
 ·
  simp only [hd40, if_false] at hne ⊢
  cases ho : opA L i [123] with
  | false =>
   simp only [ho, wantA, Bool.false_eq_true, if_false] at hne ⊢
   clear HB
   have hP := zH (h.alloc (.cells #[.int .i64 0, .int .i64 0, .slice none 0 0] 24 (0, 0))).1
   have hM := zH (h.alloc (.cells #[.int .i64 0, .int .i64 0, .slice none 0 0] 24 (0, 0))).2
   have hN := zH (nblk_new w 0 0 none 0 0)
   obtain ⟨gb, hgb⟩ : ∃ gb, w.heap.size = gb := ⟨_, rfl⟩
   have hz : (w.alloc (.cells #[.int .i64 0, .int .i64 0, .slice none 0 0] 24 (0, 0))).heap.size = gb + 1 := by simp [hgb]
   have hgl : g < gb := by have := h.lt; omega
   rw [hgb] at hN
   obtain ⟨W1, hq_W1⟩ : ∃ W1, w.alloc (.cells #[.int .i64 0, .int .i64 0, .slice none 0 0] 24 (0, 0)) = W1 := ⟨_, rfl⟩
   rw [hq_W1] at hP hM hN hz
   replace hz := And.intro (Nat.le_of_eq hz) (Nat.le_of_eq hz.symm)
   replace h := zH h
   have hmf : ∀ (fn : Fn) (first cap : Array Value) (w : World), (Instr.makeFunc fn first cap).run Tryz.prog w = .ok (.func fn first cap) w := fun _ _ _ _ => rfl
   go_enter Tryz.func113, Tryz.ntmps113
   go_wp2_with fail
   clear hq_W1
   refine (paOp_any _ _).mono ?_
   rintro e W2 ⟨rfl, hb⟩
   have h2 := (uH hP).below hb
   have hm := mop_below (g := g) hb
   clear hb
   replace hN := zH ((uH hN).mop (uH hP) hm)
   have hzz := hm.size
   replace hM := zH ((uH hM).trans hm)
   replace hP := zH h2
   clear hm h2
   go_wp2_with fail
   refine (paOpen_no (uH hP) (by omega) (opT [123]) (by rw [eqB_op]; exact ho)).mono ?_
   rintro e W3 hBad
   obtain rfl := hBad.1
   have hG := zH (hBad.pre (uH hM))
   clear hBad
   go_wp2
   exact ⟨rfl, uH hG⟩
  | true =>
   simp only [ho, wantA, if_true] at hne ⊢
   have hne1 : brsA L f .nil (skN L (i + 1)) (d + 1) ≠ .out := fun e => hne (by rw [e]; rfl)
   have hH := zH (fun w h => HB w (i + 1) (d + 1) h (by omega) hne1)
   clear HB hne
   cases hr : brsA L f .nil (skN L (i + 1)) (d + 1) with
   | out => exact absurd hr hne1
   | bad j =>
    rw [hr] at hH
    simp only [PR.bind]
    have hP := zH (h.alloc (.cells #[.int .i64 0, .int .i64 0, .slice none 0 0] 24 (0, 0))).1
    have hM := zH (h.alloc (.cells #[.int .i64 0, .int .i64 0, .slice none 0 0] 24 (0, 0))).2
    have hN := zH (nblk_new w 0 0 none 0 0)
    obtain ⟨gb, hgb⟩ : ∃ gb, w.heap.size = gb := ⟨_, rfl⟩
    have hz : (w.alloc (.cells #[.int .i64 0, .int .i64 0, .slice none 0 0] 24 (0, 0))).heap.size = gb + 1 := by simp [hgb]
    have hgl : g < gb := by have := h.lt; omega
    rw [hgb] at hN
    obtain ⟨W1, hq_W1⟩ : ∃ W1, w.alloc (.cells #[.int .i64 0, .int .i64 0, .slice none 0 0] 24 (0, 0)) = W1 := ⟨_, rfl⟩
    rw [hq_W1] at hP hM hN hz
    replace hz := And.intro (Nat.le_of_eq hz) (Nat.le_of_eq hz.symm)
    replace h := zH h
    have hmf : ∀ (fn : Fn) (first cap : Array Value) (w : World), (Instr.makeFunc fn first cap).run Tryz.prog w = .ok (.func fn first cap) w := fun _ _ _ _ => rfl
    go_enter Tryz.func113, Tryz.ntmps113
    go_wp2_with fail
    clear hq_W1
    refine (paOp_any _ _).mono ?_
    rintro e W2 ⟨rfl, hb⟩
    have h2 := (uH hP).below hb
    have hm := mop_below (g := g) hb
    clear hb
    replace hN := zH ((uH hN).mop (uH hP) hm)
    have hzz := hm.size
    replace hM := zH ((uH hM).trans hm)
    replace hP := zH h2
    clear hm h2
    go_wp2_with fail
    refine (paOpen_yes (uH hP) (by omega) (opT [123]) (by rw [eqB_op]; exact ho) (opA_lt ho)).mono ?_
    rintro e W3 ⟨rfl, h2, hm⟩
    replace hN := zH ((uH hN).mop (uH hP) hm)
    have hzz := hm.size
    replace hM := zH ((uH hM).trans hm)
    replace hP := zH h2
    clear hm h2
    obtain ⟨b1, hq_b1⟩ : ∃ x, W3.heap.size = x := ⟨_, rfl⟩
    have hB := zH (nblk_new W3 10 i none 0 0)
    have hm := mop_below (g := g) (below_alloc W3 (.cells #[.int .i64 10, .int .i64 i, .slice none 0 0] 24 (0, 0)))
    have h2 := (uH hP).below (below_alloc W3 (.cells #[.int .i64 10, .int .i64 i, .slice none 0 0] 24 (0, 0)))
    have hzs : (W3.alloc (.cells #[.int .i64 10, .int .i64 i, .slice none 0 0] 24 (0, 0))).heap.size = b1 + 1 := by simp [hq_b1]
    obtain ⟨W4, hq_W4⟩ : ∃ x, W3.alloc (.cells #[.int .i64 10, .int .i64 i, .slice none 0 0] 24 (0, 0)) = x := ⟨_, rfl⟩
    rw [hq_W4] at hB hm h2 hzs
    replace hzs := And.intro (Nat.le_of_eq hzs) (Nat.le_of_eq hzs.symm)
    rw [hq_b1] at hB
    replace hq_W4 := zH hq_W4
    replace hN := zH ((uH hN).mop (uH hP) hm)
    have hzz := hm.size
    replace hM := zH ((uH hM).trans hm)
    replace hP := zH h2
    clear hm h2
    go_wp2_with fail
    rw [uH hq_W4]
    clear hq_W4
    refine (uH hH _ (uH hP)).mono ?_
    rintro e W5 hBad
    obtain rfl := hBad.1
    have hG := zH (hBad.pre (uH hM))
    clear hBad
    go_wp2
    exact ⟨rfl, uH hG⟩
   | ok l j =>
    rw [hr] at hH
    simp only [PR.bind]
    have hP := zH (h.alloc (.cells #[.int .i64 0, .int .i64 0, .slice none 0 0] 24 (0, 0))).1
    have hM := zH (h.alloc (.cells #[.int .i64 0, .int .i64 0, .slice none 0 0] 24 (0, 0))).2
    have hN := zH (nblk_new w 0 0 none 0 0)
    obtain ⟨gb, hgb⟩ : ∃ gb, w.heap.size = gb := ⟨_, rfl⟩
    have hz : (w.alloc (.cells #[.int .i64 0, .int .i64 0, .slice none 0 0] 24 (0, 0))).heap.size = gb + 1 := by simp [hgb]
    have hgl : g < gb := by have := h.lt; omega
    rw [hgb] at hN
    obtain ⟨W1, hq_W1⟩ : ∃ W1, w.alloc (.cells #[.int .i64 0, .int .i64 0, .slice none 0 0] 24 (0, 0)) = W1 := ⟨_, rfl⟩
    rw [hq_W1] at hP hM hN hz
    replace hz := And.intro (Nat.le_of_eq hz) (Nat.le_of_eq hz.symm)
    replace h := zH h
    have hmf : ∀ (fn : Fn) (first cap : Array Value) (w : World), (Instr.makeFunc fn first cap).run Tryz.prog w = .ok (.func fn first cap) w := fun _ _ _ _ => rfl
    go_enter Tryz.func113, Tryz.ntmps113
    go_wp2_with fail
    clear hq_W1
    refine (paOp_any _ _).mono ?_
    rintro e W2 ⟨rfl, hb⟩
    have h2 := (uH hP).below hb
    have hm := mop_below (g := g) hb
    clear hb
    replace hN := zH ((uH hN).mop (uH hP) hm)
    have hzz := hm.size
    replace hM := zH ((uH hM).trans hm)
    replace hP := zH h2
    clear hm h2
    go_wp2_with fail
    refine (paOpen_yes (uH hP) (by omega) (opT [123]) (by rw [eqB_op]; exact ho) (opA_lt ho)).mono ?_
    rintro e W3 ⟨rfl, h2, hm⟩
    replace hN := zH ((uH hN).mop (uH hP) hm)
    have hzz := hm.size
    replace hM := zH ((uH hM).trans hm)
    replace hP := zH h2
    clear hm h2
    obtain ⟨b1, hq_b1⟩ : ∃ x, W3.heap.size = x := ⟨_, rfl⟩
    have hB := zH (nblk_new W3 10 i none 0 0)
    have hm := mop_below (g := g) (below_alloc W3 (.cells #[.int .i64 10, .int .i64 i, .slice none 0 0] 24 (0, 0)))
    have h2 := (uH hP).below (below_alloc W3 (.cells #[.int .i64 10, .int .i64 i, .slice none 0 0] 24 (0, 0)))
    have hzs : (W3.alloc (.cells #[.int .i64 10, .int .i64 i, .slice none 0 0] 24 (0, 0))).heap.size = b1 + 1 := by simp [hq_b1]
    obtain ⟨W4, hq_W4⟩ : ∃ x, W3.alloc (.cells #[.int .i64 10, .int .i64 i, .slice none 0 0] 24 (0, 0)) = x := ⟨_, rfl⟩
    rw [hq_W4] at hB hm h2 hzs
    replace hzs := And.intro (Nat.le_of_eq hzs) (Nat.le_of_eq hzs.symm)
    rw [hq_b1] at hB
    replace hq_W4 := zH hq_W4
    replace hN := zH ((uH hN).mop (uH hP) hm)
    have hzz := hm.size
    replace hM := zH ((uH hM).trans hm)
    replace hP := zH h2
    clear hm h2
    go_wp2_with fail
    rw [uH hq_W4]
    clear hq_W4
    refine (uH hH _ (uH hP)).mono ?_
    rintro e W5 ⟨a2, c2, rfl, hs, h2, hm⟩
    have hzs := hm.size
    have hs2 := zH (hs.mono (P' := fun x => gb < x ∧ x < W5.heap.size ∧ x ≠ b1) (fun x hx => by have := (uH hN).lt; have := (uH hB).lt; have e1 := hx.1; have e2 := hx.lt; exact ⟨by omega, by omega, by omega⟩))
    clear hs
    replace hN := zH ((uH hN).mop (uH hP) hm)
    replace hB := zH ((uH hB).mop (uH hP) hm)
    have hzz := hm.size
    replace hM := zH ((uH hM).trans hm)
    replace hP := zH h2
    clear hm h2
    obtain ⟨p0_hB, p1_hB, p2_hB⟩ := (uH hB).box
    have f0_hB := (uH hB).frozen 0
    have f1_hB := (uH hB).frozen 1
    have f2_hB := (uH hB).frozen 2
    obtain ⟨h2, hM2, hB2, hh⟩ := kid_set (uH hP) (uH hM) (uH hB) (by omega) a2 l.len c2
    have hzz : (W5.setCell ⟨b1, 2, none⟩ (.slice a2 l.len c2)).heap.size = W5.heap.size := by simp
    obtain ⟨W6, hq_W6⟩ : ∃ x, W5.setCell ⟨b1, 2, none⟩ (.slice a2 l.len c2) = x := ⟨_, rfl⟩
    rw [hq_W6] at h2 hM2 hB2 hh hzz
    replace hzz := And.intro (Nat.le_of_eq hzz) (Nat.le_of_eq hzz.symm)
    replace hN := zH ((uH hN).same (hh _ (by omega)))
    replace hs2 := zH ((uH hs2).keep (w' := W6) (fun x hx => hh x (by have e1 := hx.1; omega)))
    replace hB := zH hB2
    replace hM := zH hM2
    replace hP := zH h2
    clear hB2 hM2 h2 hh
    go_wp2_with fail
    clear hq_W6
    refine (paLeave_any (uH hP) (by omega)).mono ?_
    rintro e W7 ⟨rfl, h2, hm⟩
    replace hN := zH ((uH hN).mop (uH hP) hm)
    replace hB := zH ((uH hB).mop (uH hP) hm)
    replace hs2 := zH ((uH hs2).mop (uH hP) hm)
    have hzz := hm.size
    replace hM := zH ((uH hM).trans hm)
    replace hP := zH h2
    clear hm h2
    obtain ⟨p0_hB, p1_hB, p2_hB⟩ := (uH hB).box
    have f0_hB := (uH hB).frozen 0
    have f1_hB := (uH hB).frozen 1
    have f2_hB := (uH hB).frozen 2
    obtain ⟨p0_hN, p1_hN, p2_hN⟩ := (uH hN).box
    have f0_hN := (uH hN).frozen 0
    have f1_hN := (uH hN).frozen 1
    have f2_hN := (uH hN).frozen 2
    have hF := zH (res_fin (k := 10) (t := i) (a := a2) (m := l.len) (c := c2) (f := l) (B := gb) (w := w) (Nat.le_refl gb) (by omega) (uH hN) ((uH hs2).mono (fun x hx => by have e1 := hx.1; exact ⟨by omega, by omega⟩)) (uH hP) (uH hM))
    go_wp2
    obtain ⟨q1, q2, q3, q4⟩ := uH hF
    obtain ⟨u0, u1, u2⟩ := q1.box
    refine bodyPost_ret (v := .agg #[.int .i64 (10), .int .i64 (i), .slice (a2) (l.len) (c2)]) (by simp [results, Tryz.results113, go_sem, u0, u1, u2]) rfl ?_
    exact ⟨_, _, _, rfl, (by first | exact q2 | (rw [hgb]; exact q2)), q3, q4⟩
end Go.Proofs.YtiknnobgoamgcaaGreatDoor

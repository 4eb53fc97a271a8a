/-
  2 texts in one.
-/
import Derived.Test.YtiknnobgoamgcaaGreatDoorB12
/-
  The parser: a list of params, with its row.
-/
namespace Go.Proofs.YtiknnobgoamgcaaGreatDoor
open Go.RowKit Go.Lib Go.Sort
set_option linter.unusedSimpArgs false
set_option linter.unusedVariables false
/-- A list came, in a row of one's own. -/
def ResFR (B : Nat) (g : Nat) (tv : Value) (L : List Tk) (d : Nat) (w : World) (r : PR F) (e : Ending) (w' : World) : Prop := match r with
 | .out => False
 | .bad j => Bad g tv L j w e w'
 | .ok l j => ∃ (a : Option Addr) (c : Nat), e = .returned (.slice a l.len c) ∧ RowP (fun x => B ≤ x) w' B (.slice a l.len c) l ∧ PaW g tv L j d w' ∧ MoP g w w'
set_option maxHeartbeats 4000000 in
set_option maxRecDepth 100000 in
theorem paList_params {g : Nat} {tv : Value} {L : List Tk} {i d : Nat} {w : World} (h : PaW g tv L i d w) {f : Nat} (hf : f ≤ 1000000) (hne : plsA L f i ≠ .out) : Calls Tryz.prog 110 #[.pointer (some ⟨g, 0, none⟩), .func (.func 111) #[.pointer (some ⟨g, 0, none⟩)] #[]] w fun e w' => ResFR w.heap.size g tv L d w (plsA L f i) e w' := by
 have h0 := zH h
 unfold plsA at hne ⊢
 cases ho : opA L i [41] with
 | true =>
  simp only [ho, if_true] at hne ⊢
  have hP := zH h
  have hM := zH (Moves.refl (fun x => x = g) w)
  go_enter Tryz.func110, Tryz.ntmps110
  go_wp2_with fail
  refine (paOp_any _ _).mono ?_
  rintro e W2 ⟨rfl, hb⟩
  have h2 := (uH hP).below hb
  have hm := mop_below (g := g) hb
  clear hb
  have hzz := hm.size
  replace hM := zH ((uH hM).trans hm)
  replace hP := zH h2
  clear hm h2
  go_wp2_with fail
  refine (paTake_yes (uH hP) (opT [41]) (by rw [eqB_op]; exact ho) (opA_lt ho)).mono ?_
  rintro e W3 ⟨rfl, h2, hm⟩
  have hzz := hm.size
  replace hM := zH ((uH hM).trans hm)
  replace hP := zH h2
  clear hm h2
  go_wp2
  go_ret
  exact ⟨none, 0, rfl, rowP_nil _ _ _, uH hP, uH hM⟩
 | false =>
  simp only [ho, Bool.false_eq_true, if_false] at hne ⊢
  have hne1 : typedA L 9 i ≠ .out := fun e => hne (by rw [e]; rfl)
  have hH := zH (fun w h => paParam_any (g := g) (tv := tv) (L := L) (w := w) (i := i) (d := d) h)
  cases hr : typedA L 9 i with
  | out => exact absurd hr hne1
  | bad j =>
   simp only [PR.bind]
   have hP := zH h
   have hM := zH (Moves.refl (fun x => x = g) w)
   go_enter Tryz.func110, Tryz.ntmps110
   go_wp2_with fail
   refine (paOp_any _ _).mono ?_
   rintro e W2 ⟨rfl, hb⟩
   have h2 := (uH hP).below hb
   have hm := mop_below (g := g) hb
   clear hb
   have hzz := hm.size
   replace hM := zH ((uH hM).trans hm)
   replace hP := zH h2
   clear hm h2
   go_wp2_with fail
   refine (paTake_no (uH hP) (opT [41]) (by rw [eqB_op]; exact ho)).mono ?_
   rintro e W3 ⟨rfl, h2, hm⟩
   have hzz := hm.size
   replace hM := zH ((uH hM).trans hm)
   replace hP := zH h2
   clear hm h2
   go_wp2_with fail
   have hC := uH hH _ (uH hP)
   rw [hr] at hC
   refine (hC).mono ?_
   rintro e W4 hBad
   obtain rfl := hBad.1
   have hG := zH (hBad.pre (uH hM))
   clear hBad
   go_wp2
   exact ⟨rfl, uH hG⟩
  | ok n j0 =>
   obtain ⟨nk, nt, nc⟩ := n
   rw [hr] at hne
   simp only [PR.bind, one] at hne ⊢
   obtain ⟨R, hR⟩ : ∃ R, prsA L f (.cons nk nt nc .nil) j0 = R := ⟨_, rfl⟩
   rw [hR] at hne ⊢
   have hP := zH h
   have hM := zH (Moves.refl (fun x => x = g) w)
   go_enter Tryz.func110, Tryz.ntmps110
   go_wp2_with fail
   refine (paOp_any _ _).mono ?_
   rintro e W2 ⟨rfl, hb⟩
   have h2 := (uH hP).below hb
   have hm := mop_below (g := g) hb
   clear hb
   have hzz := hm.size
   replace hM := zH ((uH hM).trans hm)
   replace hP := zH h2
   clear hm h2
   go_wp2_with fail
   refine (paTake_no (uH hP) (opT [41]) (by rw [eqB_op]; exact ho)).mono ?_
   rintro e W3 ⟨rfl, h2, hm⟩
   have hzz := hm.size
   replace hM := zH ((uH hM).trans hm)
   replace hP := zH h2
   clear hm h2
   go_wp2_with fail
   have hC := uH hH _ (uH hP)
   rw [hr] at hC
   refine (hC).mono ?_
   rintro e W9 ⟨a2, m2, c2, rfl, hs, h2, hm⟩
   dsimp only at hs
   replace hM := (uH hM).trans hm
   have hwl := hM.size
   have hsB : SlQ (fun x => w.heap.size ≤ x) W9 a2 m2 c2 nc := hs.mono (fun x hx => by have e1 := hx.1; omega)
   have hR0 := zH (rowP_one (B := w.heap.size) (k := nk) (t := nt) hwl hsB)
   have hP2 := zH (h2.below (below_alloc W9 (.cells #[.int .i64 nk, .int .i64 nt, .slice a2 m2 c2] 24 (0, 0))))
   have hM2 := zH (hM.trans (mop_below (g := g) (below_alloc W9 (.cells #[.int .i64 nk, .int .i64 nt, .slice a2 m2 c2] 24 (0, 0)))))
   clear hm h2 hC hs hsB hM hP
   obtain ⟨gl, hgl⟩ : ∃ x, W9.heap.size = x := ⟨_, rfl⟩
   obtain ⟨WA, hq_WA⟩ : ∃ x, W9.alloc (.cells #[.int .i64 nk, .int .i64 nt, .slice a2 m2 c2] 24 (0, 0)) = x := ⟨_, rfl⟩
   rw [hq_WA] at hR0 hP2 hM2
   rw [hgl] at hR0
   go_upto_region 4 with fail
   clear hq_WA
   go_loopg [5] f (fun gf s5 wx => ∃ (v5 : Value) (l : F) (j : Nat), v5 = s5 ∧ RowP (fun x => w.heap.size ≤ x) wx w.heap.size s5 l ∧ PaW g tv L j d wx ∧ MoP g w wx ∧ prsA L gf l j = R ∧ l.len + gf ≤ f + 1 ∧ gf ≤ f)
   case atStart => exact ⟨_, _, _, rfl, uH hR0, uH hP2, uH hM2, hR, by simp only [F.len]; omega, Nat.le_refl _⟩
   case round =>
    obtain ⟨v5, l, j, rfl, hRw, hP, hM, hE, hlf, hgf⟩ := hrel
    cases gk with
    | zero =>
     unfold prsA at hE
     exact absurd hE.symm hne
    | succ g' =>
     unfold prsA at hE
     replace hRw := zH hRw
     replace hP := zH hP
     replace hM := zH hM
     clear hR hR0 hP2 hM2
     cases ho : opA L j [44] with
     | true =>
      simp only [ho, if_true] at hE
      have hne1 : typedA L 9 (j + 1) ≠ .out := fun e => hne (by rw [← hE, e]; rfl)
      have hH := zH (fun w h => paParam_any (g := g) (tv := tv) (L := L) (w := w) (i := j + 1) (d := d) h)
      cases hr : typedA L 9 (j + 1) with
      | out => exact absurd hr hne1
      | bad j2 =>
       rw [hr] at hE
       simp only [PR.bind] at hE
       subst hE
       go_wp2_with fail
       refine (paOp_any _ _).mono ?_
       rintro e W20 ⟨rfl, hb⟩
       have h2 := (uH hP).below hb
       have hm := mop_below (g := g) hb
       clear hb
       replace hRw := zH ((uH hRw).mop (uH hP) hm)
       have hzz := hm.size
       replace hM := zH ((uH hM).trans hm)
       replace hP := zH h2
       clear hm h2
       go_wp2_with fail
       refine (paTake_yes (uH hP) (opT [44]) (by rw [eqB_op]; exact ho) (opA_lt ho)).mono ?_
       rintro e W21 ⟨rfl, h2, hm⟩
       replace hRw := zH ((uH hRw).mop (uH hP) hm)
       have hzz := hm.size
       replace hM := zH ((uH hM).trans hm)
       replace hP := zH h2
       clear hm h2
       go_wp2_with fail
       have hC := uH hH _ (uH hP)
       rw [hr] at hC
       refine (hC).mono ?_
       rintro e W22 hBad
       obtain rfl := hBad.1
       have hG := zH (hBad.pre (uH hM))
       clear hBad
       go_wp2
       exact ⟨rfl, uH hG⟩
      | ok n j2 =>
       obtain ⟨nk, nt, nc⟩ := n
       rw [hr] at hE
       simp only [PR.bind, snoc, one] at hE
       go_wp2_with fail
       refine (paOp_any _ _).mono ?_
       rintro e W20 ⟨rfl, hb⟩
       have h2 := (uH hP).below hb
       have hm := mop_below (g := g) hb
       clear hb
       replace hRw := zH ((uH hRw).mop (uH hP) hm)
       have hzz := hm.size
       replace hM := zH ((uH hM).trans hm)
       replace hP := zH h2
       clear hm h2
       go_wp2_with fail
       refine (paTake_yes (uH hP) (opT [44]) (by rw [eqB_op]; exact ho) (opA_lt ho)).mono ?_
       rintro e W21 ⟨rfl, h2, hm⟩
       replace hRw := zH ((uH hRw).mop (uH hP) hm)
       have hzz := hm.size
       replace hM := zH ((uH hM).trans hm)
       replace hP := zH h2
       clear hm h2
       go_wp2_with fail
       have hC := uH hH _ (uH hP)
       rw [hr] at hC
       refine hC.mono ?_
       rintro e W30 ⟨a2, m2, c2, rfl, hs, h2, hm⟩
       dsimp only at hs
       have hRl := (uH hRw).lt
       have hRw2 := (uH hRw).mop (uH hP) hm
       have hwl := (uH hM).size
       replace hM := (uH hM).trans hm
       have hzs := hm.size
       have hz31 := hM.size
       have hs2 : SlQ (fun x => w.heap.size ≤ x) W30 a2 m2 c2 nc := hs.mono (fun x hx => by have e1 := hx.1; omega)
       have hL1 := lit1_sl (P := fun x => w.heap.size ≤ x) W30 nk nt a2 m2 c2 nc hs2 hz31
       have hL2 : SlQ (fun x => w.heap.size ≤ x ∧ v5.ownBlock ≠ some x ∧ x < (W30.alloc (.cells #[.int .i64 nk, .int .i64 nt, .slice a2 m2 c2] 24 (0, 0))).heap.size) (W30.alloc (.cells #[.int .i64 nk, .int .i64 nt, .slice a2 m2 c2] 24 (0, 0))) (some ⟨W30.heap.size, 0, none⟩) 1 1 (.cons nk nt nc .nil) :=
        (lit1_sl (P := fun x => w.heap.size ≤ x ∧ v5.ownBlock ≠ some x) W30 nk nt a2 m2 c2 nc (hs.mono (fun x hx => ⟨by have e1 := hx.1; omega, fun e => by have := hRl x e; have e1 := hx.1; omega⟩)) ⟨hz31, fun e => by have := hRl _ e; omega⟩).mono (fun x hx => ⟨hx.1.1, hx.1.2, hx.lt⟩)
       have hRw3 := hRw2.below (below_alloc W30 (.cells #[.int .i64 nk, .int .i64 nt, .slice a2 m2 c2] 24 (0, 0)))
       have hP3 := zH (h2.below (below_alloc W30 (.cells #[.int .i64 nk, .int .i64 nt, .slice a2 m2 c2] 24 (0, 0))))
       have hM3 := zH (hM.trans (mop_below (g := g) (below_alloc W30 (.cells #[.int .i64 nk, .int .i64 nt, .slice a2 m2 c2] 24 (0, 0)))))
       have hz32 : w.heap.size ≤ (W30.alloc (.cells #[.int .i64 nk, .int .i64 nt, .slice a2 m2 c2] 24 (0, 0))).heap.size := by simp; omega
       clear hL1 hs2 hs h2 hm hM hRw hRw2 hP
       obtain ⟨gl2, hgl2⟩ : ∃ x, W30.heap.size = x := ⟨_, rfl⟩
       obtain ⟨WA, hq_WA⟩ : ∃ x, W30.alloc (.cells #[.int .i64 nk, .int .i64 nt, .slice a2 m2 c2] 24 (0, 0)) = x := ⟨_, rfl⟩
       rw [hq_WA] at hL2 hRw3 hP3 hM3 hz32
       rw [hgl2] at hL2
       replace hL2 := zH hL2
       replace hRw3 := zH hRw3
       have hE' := zH hE
       clear hE
       go_wp2_with (at_builtin; refine wpList_append_rowP rfl (.tmp 15) (.tmp 18) rfl rfl (uH hRw3) rfl (uH hL2) (by omega) hz32 ?_)
       intro v4 W40 hR4 hb4 hg4 hl4
       have hP4 := zH ((uH hP3).belowB (uH h0) hb4)
       have hM4 := zH (mop_belowB (uH h0) hb4 hz32 (uH hM3))
       clear hb4 hg4 hl4 hL2 hRw3 hP3 hM3 hq_WA hgl2
       go_wp2
       go_roundg g'
       case measure => omega
       case rel => exact ⟨_, _, _, rfl, hR4, uH hP4, uH hM4, uH hE', by rw [F.len_app]; simp only [F.len]; omega, by omega⟩
     | false =>
      simp only [ho, Bool.false_eq_true, if_false, wantA] at hE
      cases ho2 : opA L j [41] with
      | false =>
       simp only [ho2, Bool.false_eq_true, if_false] at hE
       subst hE
       go_wp2_with fail
       refine (paOp_any _ _).mono ?_
       rintro e W20 ⟨rfl, hb⟩
       have h2 := (uH hP).below hb
       have hm := mop_below (g := g) hb
       clear hb
       replace hRw := zH ((uH hRw).mop (uH hP) hm)
       have hzz := hm.size
       replace hM := zH ((uH hM).trans hm)
       replace hP := zH h2
       clear hm h2
       go_wp2_with fail
       refine (paTake_no (uH hP) (opT [44]) (by rw [eqB_op]; exact ho)).mono ?_
       rintro e W21 ⟨rfl, h2, hm⟩
       replace hRw := zH ((uH hRw).mop (uH hP) hm)
       have hzz := hm.size
       replace hM := zH ((uH hM).trans hm)
       replace hP := zH h2
       clear hm h2
       go_wp2_with fail
       refine (paOp_any _ _).mono ?_
       rintro e W22 ⟨rfl, hb⟩
       have h2 := (uH hP).below hb
       have hm := mop_below (g := g) hb
       clear hb
       replace hRw := zH ((uH hRw).mop (uH hP) hm)
       have hzz := hm.size
       replace hM := zH ((uH hM).trans hm)
       replace hP := zH h2
       clear hm h2
       go_wp2_with fail
       refine (paWant_no (uH hP) (opT [41]) (by rw [eqB_op]; exact ho2)).mono ?_
       rintro e W23 hBad
       obtain rfl := hBad.1
       have hG := zH (hBad.pre (uH hM))
       clear hBad
       go_wp2
       exact ⟨rfl, uH hG⟩
      | true =>
       simp only [ho2, if_true] at hE
       subst hE
       go_wp2_with fail
       refine (paOp_any _ _).mono ?_
       rintro e W20 ⟨rfl, hb⟩
       have h2 := (uH hP).below hb
       have hm := mop_below (g := g) hb
       clear hb
       replace hRw := zH ((uH hRw).mop (uH hP) hm)
       have hzz := hm.size
       replace hM := zH ((uH hM).trans hm)
       replace hP := zH h2
       clear hm h2
       go_wp2_with fail
       refine (paTake_no (uH hP) (opT [44]) (by rw [eqB_op]; exact ho)).mono ?_
       rintro e W21 ⟨rfl, h2, hm⟩
       replace hRw := zH ((uH hRw).mop (uH hP) hm)
       have hzz := hm.size
       replace hM := zH ((uH hM).trans hm)
       replace hP := zH h2
       clear hm h2
       go_wp2_with fail
       refine (paOp_any _ _).mono ?_
       rintro e W22 ⟨rfl, hb⟩
       have h2 := (uH hP).below hb
       have hm := mop_below (g := g) hb
       clear hb
       replace hRw := zH ((uH hRw).mop (uH hP) hm)
       have hzz := hm.size
       replace hM := zH ((uH hM).trans hm)
       replace hP := zH h2
       clear hm h2
       go_wp2_with fail
       refine (paWant_yes (uH hP) (opT [41]) (by rw [eqB_op]; exact ho2) (opA_lt ho2)).mono ?_
       rintro e W23 ⟨rfl, h2, hm⟩
       replace hRw := zH ((uH hRw).mop (uH hP) hm)
       have hzz := hm.size
       replace hM := zH ((uH hM).trans hm)
       replace hP := zH h2
       clear hm h2
       obtain ⟨av, cv, rfl, _⟩ := (uH hRw).sl (fun _ h => h)
       go_wp2
       go_ret
       exact ⟨av, cv, rfl, uH hRw, uH hP, uH hM⟩
end Go.Proofs.YtiknnobgoamgcaaGreatDoor
/-
  The parser: the end of a piece of a file; a struct.
-/
namespace Go.Proofs.YtiknnobgoamgcaaGreatDoor
open Go.RowKit Go.Lib Go.Sort
set_option linter.unusedSimpArgs false
set_option linter.unusedVariables false
set_option maxHeartbeats 4000000 in
set_option maxRecDepth 100000 in
theorem paEnd_no {g : Nat} {tv : Value} {L : List Tk} {i d : Nat} {w : World} (h : PaW g tv L i d w) (hk : knd L i 6 = false) : Calls Tryz.prog 66 #[.pointer (some ⟨g, 0, none⟩)] w fun e w' => Bad g tv L i w e w' := by
 have hP := zH h
 have hM := zH (Moves.refl (fun x => x = g) w)
 go_enter Tryz.func66, Tryz.ntmps66
 go_wp2_with fail
 refine (paWantKind_no (uH hP) 6 hk).mono ?_
 rintro e W2 hBad
 obtain rfl := hBad.1
 have hG := zH (hBad.pre (uH hM))
 clear hBad
 go_wp2
 exact ⟨rfl, uH hG⟩
set_option maxHeartbeats 4000000 in
set_option maxRecDepth 100000 in
theorem paEnd_yes {g : Nat} {tv : Value} {L : List Tk} {i d : Nat} {w : World} (h : PaW g tv L i d w) (hk : knd L i 6 = true) : Calls Tryz.prog 66 #[.pointer (some ⟨g, 0, none⟩)] w fun e w' => OkV g tv L (.tuple #[]) (skN L (i + 1)) d w e w' := by
 have hP := zH h
 have hM := zH (Moves.refl (fun x => x = g) w)
 go_enter Tryz.func66, Tryz.ntmps66
 go_wp2_with fail
 refine (paWantKind_yes (uH hP) 6 hk (by decide)).mono ?_
 rintro e W2 ⟨rfl, h2, hm⟩
 have hzz := hm.size
 replace hM := zH ((uH hM).trans hm)
 replace hP := zH h2
 clear hm h2
 go_wp2_with fail
 refine (paSkip_any (uH hP)).mono ?_
 rintro e W3 ⟨rfl, h2, hm⟩
 have hzz := hm.size
 replace hM := zH ((uH hM).trans hm)
 replace hP := zH h2
 clear hm h2
 go_wp2
 exact bodyPost_ret (results_none rfl _ _ _) rfl ⟨rfl, uH hP, uH hM⟩
set_option maxHeartbeats 4000000 in
set_option maxRecDepth 100000 in
theorem paStructure_any {g : Nat} {tv : Value} {L : List Tk} {i d : Nat} {w : World} (h : PaW g tv L i d w) {f : Nat} (hd : d < 40) (hf : f ≤ 1000000) (hne : strA L f i ≠ .out) : Calls Tryz.prog 90 #[.pointer (some ⟨g, 0, none⟩)] w fun e w' => ResN w.heap.size g tv L d w (strA L f i) e w' := by
 unfold strA at hne ⊢
 cases h1 : knd L i 1 with
 | false =>
  simp only [leafA, h1, PR.bind, Bool.false_eq_true, if_false]
  clear hne
  have hP := zH (h.alloc (.cells #[.int .i64 0, .int .i64 0, .slice none 0 0] 24 (0, 0))).1
  have hM := zH (h.alloc (.cells #[.int .i64 0, .int .i64 0, .slice none 0 0] 24 (0, 0))).2
  have hN := zH (nblk_new w 0 0 none 0 0)
  obtain ⟨gb, hgb⟩ : ∃ gb, w.heap.size = gb := ⟨_, rfl⟩
  have hz : (w.alloc (.cells #[.int .i64 0, .int .i64 0, .slice none 0 0] 24 (0, 0))).heap.size = gb + 1 := by simp [hgb]
  have hgl : g < gb := by have := h.lt; omega
  rw [hgb] at hN
  obtain ⟨W1, hq_W1⟩ : ∃ W1, w.alloc (.cells #[.int .i64 0, .int .i64 0, .slice none 0 0] 24 (0, 0)) = W1 := ⟨_, rfl⟩
  rw [hq_W1] at hP hM hN hz
  replace hz := And.intro (Nat.le_of_eq hz) (Nat.le_of_eq hz.symm)
  replace h := zH h
  go_enter Tryz.func90, Tryz.ntmps90
  go_wp2_with fail
  clear hq_W1
  refine (paNamed_no (uH hP) 6 h1).mono ?_
  rintro e W2 hBad
  obtain rfl := hBad.1
  have hG := zH (hBad.pre (uH hM))
  clear hBad
  go_wp2
  exact ⟨rfl, uH hG⟩
 | true =>
  have e2 : i + 1 + 2 = i + 1 + 1 + 1 := rfl
  simp only [leafA, h1, PR.bind, if_true, wantA] at hne ⊢
  rw [e2] at hne ⊢
  clear e2
  cases h2 : keyA L (i + 1) [115, 116, 114, 117, 99, 116] with
  | false =>
   simp only [Bool.false_eq_true, if_false]
   clear hne
   have hP := zH (h.alloc (.cells #[.int .i64 0, .int .i64 0, .slice none 0 0] 24 (0, 0))).1
   have hM := zH (h.alloc (.cells #[.int .i64 0, .int .i64 0, .slice none 0 0] 24 (0, 0))).2
   have hN := zH (nblk_new w 0 0 none 0 0)
   obtain ⟨gb, hgb⟩ : ∃ gb, w.heap.size = gb := ⟨_, rfl⟩
   have hz : (w.alloc (.cells #[.int .i64 0, .int .i64 0, .slice none 0 0] 24 (0, 0))).heap.size = gb + 1 := by simp [hgb]
   have hgl : g < gb := by have := h.lt; omega
   rw [hgb] at hN
   obtain ⟨W1, hq_W1⟩ : ∃ W1, w.alloc (.cells #[.int .i64 0, .int .i64 0, .slice none 0 0] 24 (0, 0)) = W1 := ⟨_, rfl⟩
   rw [hq_W1] at hP hM hN hz
   replace hz := And.intro (Nat.le_of_eq hz) (Nat.le_of_eq hz.symm)
   replace h := zH h
   have hmf : ∀ (fn : Fn) (first cap : Array Value) (w : World), (Instr.makeFunc fn first cap).run Tryz.prog w = .ok (.func fn first cap) w := fun _ _ _ _ => rfl
   go_enter Tryz.func90, Tryz.ntmps90
   go_wp2_with fail
   clear hq_W1
   refine (paNamed_yes (uH hP) 6 h1).mono ?_
   rintro e W2 ⟨a1, m1, c1, rfl, hs, h2, hm⟩
   have hzs := hm.size
   have hs1 := zH (hs.mono (P' := fun x => gb < x ∧ x < W2.heap.size) (fun x hx => by have := (uH hN).lt; have e1 := hx.1; have e2 := hx.lt; exact ⟨by omega, by omega⟩))
   clear hs
   replace hN := zH ((uH hN).mop (uH hP) hm)
   have hzz := hm.size
   replace hM := zH ((uH hM).trans hm)
   replace hP := zH h2
   clear hm h2
   dsimp only at hs1 ⊢
   obtain rfl := sl_empty (uH hs1)
   obtain ⟨b1, hq_b1⟩ : ∃ x, W2.heap.size = x := ⟨_, rfl⟩
   have hB := zH (nblk_new W2 6 i a1 0 c1)
   have hm := mop_below (g := g) (below_alloc W2 (.cells #[.int .i64 6, .int .i64 i, .slice a1 0 c1] 24 (0, 0)))
   have h2 := (uH hP).below (below_alloc W2 (.cells #[.int .i64 6, .int .i64 i, .slice a1 0 c1] 24 (0, 0)))
   have hzs : (W2.alloc (.cells #[.int .i64 6, .int .i64 i, .slice a1 0 c1] 24 (0, 0))).heap.size = b1 + 1 := by simp [hq_b1]
   obtain ⟨W3, hq_W3⟩ : ∃ x, W2.alloc (.cells #[.int .i64 6, .int .i64 i, .slice a1 0 c1] 24 (0, 0)) = x := ⟨_, rfl⟩
   rw [hq_W3] at hB hm h2 hzs
   replace hzs := And.intro (Nat.le_of_eq hzs) (Nat.le_of_eq hzs.symm)
   rw [hq_b1] at hB
   replace hq_W3 := zH hq_W3
   replace hN := zH ((uH hN).mop (uH hP) hm)
   replace hs1 := zH ((uH hs1).mop (uH hP) hm)
   have hzz := hm.size
   replace hM := zH ((uH hM).trans hm)
   replace hP := zH h2
   clear hm h2
   go_wp2_with fail
   rw [uH hq_W3]
   clear hq_W3
   refine (paKey_any _ _).mono ?_
   rintro e W4 ⟨rfl, hb⟩
   have h2 := (uH hP).below hb
   have hm := mop_below (g := g) hb
   clear hb
   replace hN := zH ((uH hN).mop (uH hP) hm)
   replace hB := zH ((uH hB).mop (uH hP) hm)
   replace hs1 := zH ((uH hs1).mop (uH hP) hm)
   have hzz := hm.size
   replace hM := zH ((uH hM).trans hm)
   replace hP := zH h2
   clear hm h2
   go_wp2_with fail
   refine (paWant_no (uH hP) (keyT [115, 116, 114, 117, 99, 116]) (by rw [eqB_key]; exact h2)).mono ?_
   rintro e W5 hBad
   obtain rfl := hBad.1
   have hG := zH (hBad.pre (uH hM))
   clear hBad
   go_wp2
   exact ⟨rfl, uH hG⟩
  | true =>
   simp only [h2, if_true] at hne ⊢
   cases h3 : opA L (i + 1 + 1) [123] with
   | false =>
    simp only [Bool.false_eq_true, if_false]
    clear hne
    have hP := zH (h.alloc (.cells #[.int .i64 0, .int .i64 0, .slice none 0 0] 24 (0, 0))).1
    have hM := zH (h.alloc (.cells #[.int .i64 0, .int .i64 0, .slice none 0 0] 24 (0, 0))).2
    have hN := zH (nblk_new w 0 0 none 0 0)
    obtain ⟨gb, hgb⟩ : ∃ gb, w.heap.size = gb := ⟨_, rfl⟩
    have hz : (w.alloc (.cells #[.int .i64 0, .int .i64 0, .slice none 0 0] 24 (0, 0))).heap.size = gb + 1 := by simp [hgb]
    have hgl : g < gb := by have := h.lt; omega
    rw [hgb] at hN
    obtain ⟨W1, hq_W1⟩ : ∃ W1, w.alloc (.cells #[.int .i64 0, .int .i64 0, .slice none 0 0] 24 (0, 0)) = W1 := ⟨_, rfl⟩
    rw [hq_W1] at hP hM hN hz
    replace hz := And.intro (Nat.le_of_eq hz) (Nat.le_of_eq hz.symm)
    replace h := zH h
    have hmf : ∀ (fn : Fn) (first cap : Array Value) (w : World), (Instr.makeFunc fn first cap).run Tryz.prog w = .ok (.func fn first cap) w := fun _ _ _ _ => rfl
    go_enter Tryz.func90, Tryz.ntmps90
    go_wp2_with fail
    clear hq_W1
    refine (paNamed_yes (uH hP) 6 h1).mono ?_
    rintro e W2 ⟨a1, m1, c1, rfl, hs, h2, hm⟩
    have hzs := hm.size
    have hs1 := zH (hs.mono (P' := fun x => gb < x ∧ x < W2.heap.size) (fun x hx => by have := (uH hN).lt; have e1 := hx.1; have e2 := hx.lt; exact ⟨by omega, by omega⟩))
    clear hs
    replace hN := zH ((uH hN).mop (uH hP) hm)
    have hzz := hm.size
    replace hM := zH ((uH hM).trans hm)
    replace hP := zH h2
    clear hm h2
    dsimp only at hs1 ⊢
    obtain rfl := sl_empty (uH hs1)
    obtain ⟨b1, hq_b1⟩ : ∃ x, W2.heap.size = x := ⟨_, rfl⟩
    have hB := zH (nblk_new W2 6 i a1 0 c1)
    have hm := mop_below (g := g) (below_alloc W2 (.cells #[.int .i64 6, .int .i64 i, .slice a1 0 c1] 24 (0, 0)))
    have h2 := (uH hP).below (below_alloc W2 (.cells #[.int .i64 6, .int .i64 i, .slice a1 0 c1] 24 (0, 0)))
    have hzs : (W2.alloc (.cells #[.int .i64 6, .int .i64 i, .slice a1 0 c1] 24 (0, 0))).heap.size = b1 + 1 := by simp [hq_b1]
    obtain ⟨W3, hq_W3⟩ : ∃ x, W2.alloc (.cells #[.int .i64 6, .int .i64 i, .slice a1 0 c1] 24 (0, 0)) = x := ⟨_, rfl⟩
    rw [hq_W3] at hB hm h2 hzs
    replace hzs := And.intro (Nat.le_of_eq hzs) (Nat.le_of_eq hzs.symm)
    rw [hq_b1] at hB
    replace hq_W3 := zH hq_W3
    replace hN := zH ((uH hN).mop (uH hP) hm)
    replace hs1 := zH ((uH hs1).mop (uH hP) hm)
    have hzz := hm.size
    replace hM := zH ((uH hM).trans hm)
    replace hP := zH h2
    clear hm h2
    go_wp2_with fail
    rw [uH hq_W3]
    clear hq_W3
    refine (paKey_any _ _).mono ?_
    rintro e W4 ⟨rfl, hb⟩
    have h2 := (uH hP).below hb
    have hm := mop_below (g := g) hb
    clear hb
    replace hN := zH ((uH hN).mop (uH hP) hm)
    replace hB := zH ((uH hB).mop (uH hP) hm)
    replace hs1 := zH ((uH hs1).mop (uH hP) hm)
    have hzz := hm.size
    replace hM := zH ((uH hM).trans hm)
    replace hP := zH h2
    clear hm h2
    go_wp2_with fail
    refine (paWant_yes (uH hP) (keyT [115, 116, 114, 117, 99, 116]) (by rw [eqB_key]; exact h2) (keyA_lt h2)).mono ?_
    rintro e W5 ⟨rfl, h2, hm⟩
    replace hN := zH ((uH hN).mop (uH hP) hm)
    replace hB := zH ((uH hB).mop (uH hP) hm)
    replace hs1 := zH ((uH hs1).mop (uH hP) hm)
    have hzz := hm.size
    replace hM := zH ((uH hM).trans hm)
    replace hP := zH h2
    clear hm h2
    go_wp2_with fail
    refine (paOp_any _ _).mono ?_
    rintro e W6 ⟨rfl, hb⟩
    have h2 := (uH hP).below hb
    have hm := mop_below (g := g) hb
    clear hb
    replace hN := zH ((uH hN).mop (uH hP) hm)
    replace hB := zH ((uH hB).mop (uH hP) hm)
    replace hs1 := zH ((uH hs1).mop (uH hP) hm)
    have hzz := hm.size
    replace hM := zH ((uH hM).trans hm)
    replace hP := zH h2
    clear hm h2
    go_wp2_with fail
    refine (paOpen_no (uH hP) hd (opT [123]) (by rw [eqB_op]; exact h3)).mono ?_
    rintro e W7 hBad
    obtain rfl := hBad.1
    have hG := zH (hBad.pre (uH hM))
    clear hBad
    go_wp2
    exact ⟨rfl, uH hG⟩
   | true =>
    simp only [h3, if_true] at hne ⊢
    have hne1 : fldA L f .nil (skN L (i + 1 + 1 + 1)) ≠ .out := fun e => hne (by rw [e])
    have hH := zH (fun w h => paBraces_fields (g := g) (tv := tv) (L := L) (w := w) (i := i + 1 + 1 + 1) (d := d + 1) h (fun w i h => paField_any h) hf hne1)
    clear hne
    cases hr : fldA L f .nil (skN L (i + 1 + 1 + 1)) with
    | out => exact absurd hr hne1
    | bad j =>
     rw [hr] at hH
     dsimp only
     have hP := zH (h.alloc (.cells #[.int .i64 0, .int .i64 0, .slice none 0 0] 24 (0, 0))).1
     have hM := zH (h.alloc (.cells #[.int .i64 0, .int .i64 0, .slice none 0 0] 24 (0, 0))).2
     have hN := zH (nblk_new w 0 0 none 0 0)
     obtain ⟨gb, hgb⟩ : ∃ gb, w.heap.size = gb := ⟨_, rfl⟩
     have hz : (w.alloc (.cells #[.int .i64 0, .int .i64 0, .slice none 0 0] 24 (0, 0))).heap.size = gb + 1 := by simp [hgb]
     have hgl : g < gb := by have := h.lt; omega
     rw [hgb] at hN
     obtain ⟨W1, hq_W1⟩ : ∃ W1, w.alloc (.cells #[.int .i64 0, .int .i64 0, .slice none 0 0] 24 (0, 0)) = W1 := ⟨_, rfl⟩
     rw [hq_W1] at hP hM hN hz
     replace hz := And.intro (Nat.le_of_eq hz) (Nat.le_of_eq hz.symm)
     replace h := zH h
     have hmf : ∀ (fn : Fn) (first cap : Array Value) (w : World), (Instr.makeFunc fn first cap).run Tryz.prog w = .ok (.func fn first cap) w := fun _ _ _ _ => rfl
     go_enter Tryz.func90, Tryz.ntmps90
     go_wp2_with fail
     clear hq_W1
     refine (paNamed_yes (uH hP) 6 h1).mono ?_
     rintro e W2 ⟨a1, m1, c1, rfl, hs, h2, hm⟩
     have hzs := hm.size
     have hs1 := zH (hs.mono (P' := fun x => gb < x ∧ x < W2.heap.size) (fun x hx => by have := (uH hN).lt; have e1 := hx.1; have e2 := hx.lt; exact ⟨by omega, by omega⟩))
     clear hs
     replace hN := zH ((uH hN).mop (uH hP) hm)
     have hzz := hm.size
     replace hM := zH ((uH hM).trans hm)
     replace hP := zH h2
     clear hm h2
     dsimp only at hs1 ⊢
     obtain rfl := sl_empty (uH hs1)
     obtain ⟨b1, hq_b1⟩ : ∃ x, W2.heap.size = x := ⟨_, rfl⟩
     have hB := zH (nblk_new W2 6 i a1 0 c1)
     have hm := mop_below (g := g) (below_alloc W2 (.cells #[.int .i64 6, .int .i64 i, .slice a1 0 c1] 24 (0, 0)))
     have h2 := (uH hP).below (below_alloc W2 (.cells #[.int .i64 6, .int .i64 i, .slice a1 0 c1] 24 (0, 0)))
     have hzs : (W2.alloc (.cells #[.int .i64 6, .int .i64 i, .slice a1 0 c1] 24 (0, 0))).heap.size = b1 + 1 := by simp [hq_b1]
     obtain ⟨W3, hq_W3⟩ : ∃ x, W2.alloc (.cells #[.int .i64 6, .int .i64 i, .slice a1 0 c1] 24 (0, 0)) = x := ⟨_, rfl⟩
     rw [hq_W3] at hB hm h2 hzs
     replace hzs := And.intro (Nat.le_of_eq hzs) (Nat.le_of_eq hzs.symm)
     rw [hq_b1] at hB
     replace hq_W3 := zH hq_W3
     replace hN := zH ((uH hN).mop (uH hP) hm)
     replace hs1 := zH ((uH hs1).mop (uH hP) hm)
     have hzz := hm.size
     replace hM := zH ((uH hM).trans hm)
     replace hP := zH h2
     clear hm h2
     go_wp2_with fail
     rw [uH hq_W3]
     clear hq_W3
     refine (paKey_any _ _).mono ?_
     rintro e W4 ⟨rfl, hb⟩
     have h2 := (uH hP).below hb
     have hm := mop_below (g := g) hb
     clear hb
     replace hN := zH ((uH hN).mop (uH hP) hm)
     replace hB := zH ((uH hB).mop (uH hP) hm)
     replace hs1 := zH ((uH hs1).mop (uH hP) hm)
     have hzz := hm.size
     replace hM := zH ((uH hM).trans hm)
     replace hP := zH h2
     clear hm h2
     go_wp2_with fail
     refine (paWant_yes (uH hP) (keyT [115, 116, 114, 117, 99, 116]) (by rw [eqB_key]; exact h2) (keyA_lt h2)).mono ?_
     rintro e W5 ⟨rfl, h2, hm⟩
     replace hN := zH ((uH hN).mop (uH hP) hm)
     replace hB := zH ((uH hB).mop (uH hP) hm)
     replace hs1 := zH ((uH hs1).mop (uH hP) hm)
     have hzz := hm.size
     replace hM := zH ((uH hM).trans hm)
     replace hP := zH h2
     clear hm h2
     go_wp2_with fail
     refine (paOp_any _ _).mono ?_
     rintro e W6 ⟨rfl, hb⟩
     have h2 := (uH hP).below hb
     have hm := mop_below (g := g) hb
     clear hb
     replace hN := zH ((uH hN).mop (uH hP) hm)
     replace hB := zH ((uH hB).mop (uH hP) hm)
     replace hs1 := zH ((uH hs1).mop (uH hP) hm)
     have hzz := hm.size
     replace hM := zH ((uH hM).trans hm)
     replace hP := zH h2
     clear hm h2
     go_wp2_with fail
     refine (paOpen_yes (uH hP) hd (opT [123]) (by rw [eqB_op]; exact h3) (opA_lt h3)).mono ?_
     rintro e W7 ⟨rfl, h2, hm⟩
     replace hN := zH ((uH hN).mop (uH hP) hm)
     replace hB := zH ((uH hB).mop (uH hP) hm)
     replace hs1 := zH ((uH hs1).mop (uH hP) hm)
     have hzz := hm.size
     replace hM := zH ((uH hM).trans hm)
     replace hP := zH h2
     clear hm h2
     go_wp2_with fail
     refine (uH hH _ (uH hP)).mono ?_
     rintro e W8 hBad
     obtain rfl := hBad.1
     have hG := zH (hBad.pre (uH hM))
     clear hBad
     go_wp2
     exact ⟨rfl, uH hG⟩
    | ok l j =>
     rw [hr] at hH
     dsimp only
     have hP := zH (h.alloc (.cells #[.int .i64 0, .int .i64 0, .slice none 0 0] 24 (0, 0))).1
     have hM := zH (h.alloc (.cells #[.int .i64 0, .int .i64 0, .slice none 0 0] 24 (0, 0))).2
     have hN := zH (nblk_new w 0 0 none 0 0)
     obtain ⟨gb, hgb⟩ : ∃ gb, w.heap.size = gb := ⟨_, rfl⟩
     have hz : (w.alloc (.cells #[.int .i64 0, .int .i64 0, .slice none 0 0] 24 (0, 0))).heap.size = gb + 1 := by simp [hgb]
     have hgl : g < gb := by have := h.lt; omega
     rw [hgb] at hN
     obtain ⟨W1, hq_W1⟩ : ∃ W1, w.alloc (.cells #[.int .i64 0, .int .i64 0, .slice none 0 0] 24 (0, 0)) = W1 := ⟨_, rfl⟩
     rw [hq_W1] at hP hM hN hz
     replace hz := And.intro (Nat.le_of_eq hz) (Nat.le_of_eq hz.symm)
     replace h := zH h
     have hmf : ∀ (fn : Fn) (first cap : Array Value) (w : World), (Instr.makeFunc fn first cap).run Tryz.prog w = .ok (.func fn first cap) w := fun _ _ _ _ => rfl
     go_enter Tryz.func90, Tryz.ntmps90
     go_wp2_with fail
     clear hq_W1
     refine (paNamed_yes (uH hP) 6 h1).mono ?_
     rintro e W2 ⟨a1, m1, c1, rfl, hs, h2, hm⟩
     have hzs := hm.size
     have hs1 := zH (hs.mono (P' := fun x => gb < x ∧ x < W2.heap.size) (fun x hx => by have := (uH hN).lt; have e1 := hx.1; have e2 := hx.lt; exact ⟨by omega, by omega⟩))
     clear hs
     replace hN := zH ((uH hN).mop (uH hP) hm)
     have hzz := hm.size
     replace hM := zH ((uH hM).trans hm)
     replace hP := zH h2
     clear hm h2
     dsimp only at hs1 ⊢
     obtain rfl := sl_empty (uH hs1)
     obtain ⟨b1, hq_b1⟩ : ∃ x, W2.heap.size = x := ⟨_, rfl⟩
     have hB := zH (nblk_new W2 6 i a1 0 c1)
     have hm := mop_below (g := g) (below_alloc W2 (.cells #[.int .i64 6, .int .i64 i, .slice a1 0 c1] 24 (0, 0)))
     have h2 := (uH hP).below (below_alloc W2 (.cells #[.int .i64 6, .int .i64 i, .slice a1 0 c1] 24 (0, 0)))
     have hzs : (W2.alloc (.cells #[.int .i64 6, .int .i64 i, .slice a1 0 c1] 24 (0, 0))).heap.size = b1 + 1 := by simp [hq_b1]
     obtain ⟨W3, hq_W3⟩ : ∃ x, W2.alloc (.cells #[.int .i64 6, .int .i64 i, .slice a1 0 c1] 24 (0, 0)) = x := ⟨_, rfl⟩
     rw [hq_W3] at hB hm h2 hzs
     replace hzs := And.intro (Nat.le_of_eq hzs) (Nat.le_of_eq hzs.symm)
     rw [hq_b1] at hB
     replace hq_W3 := zH hq_W3
     replace hN := zH ((uH hN).mop (uH hP) hm)
     replace hs1 := zH ((uH hs1).mop (uH hP) hm)
     have hzz := hm.size
     replace hM := zH ((uH hM).trans hm)
     replace hP := zH h2
     clear hm h2
     go_wp2_with fail
     rw [uH hq_W3]
     clear hq_W3
     refine (paKey_any _ _).mono ?_
     rintro e W4 ⟨rfl, hb⟩
     have h2 := (uH hP).below hb
     have hm := mop_below (g := g) hb
     clear hb
     replace hN := zH ((uH hN).mop (uH hP) hm)
     replace hB := zH ((uH hB).mop (uH hP) hm)
     replace hs1 := zH ((uH hs1).mop (uH hP) hm)
     have hzz := hm.size
     replace hM := zH ((uH hM).trans hm)
     replace hP := zH h2
     clear hm h2
     go_wp2_with fail
     refine (paWant_yes (uH hP) (keyT [115, 116, 114, 117, 99, 116]) (by rw [eqB_key]; exact h2) (keyA_lt h2)).mono ?_
     rintro e W5 ⟨rfl, h2, hm⟩
     replace hN := zH ((uH hN).mop (uH hP) hm)
     replace hB := zH ((uH hB).mop (uH hP) hm)
     replace hs1 := zH ((uH hs1).mop (uH hP) hm)
     have hzz := hm.size
     replace hM := zH ((uH hM).trans hm)
     replace hP := zH h2
     clear hm h2
     go_wp2_with fail
     refine (paOp_any _ _).mono ?_
     rintro e W6 ⟨rfl, hb⟩
     have h2 := (uH hP).below hb
     have hm := mop_below (g := g) hb
     clear hb
     replace hN := zH ((uH hN).mop (uH hP) hm)
     replace hB := zH ((uH hB).mop (uH hP) hm)
     replace hs1 := zH ((uH hs1).mop (uH hP) hm)
     have hzz := hm.size
     replace hM := zH ((uH hM).trans hm)
     replace hP := zH h2
     clear hm h2
     go_wp2_with fail
     refine (paOpen_yes (uH hP) hd (opT [123]) (by rw [eqB_op]; exact h3) (opA_lt h3)).mono ?_
     rintro e W7 ⟨rfl, h2, hm⟩
     replace hN := zH ((uH hN).mop (uH hP) hm)
     replace hB := zH ((uH hB).mop (uH hP) hm)
     replace hs1 := zH ((uH hs1).mop (uH hP) hm)
     have hzz := hm.size
     replace hM := zH ((uH hM).trans hm)
     replace hP := zH h2
     clear hm h2
     go_wp2_with fail
     refine (uH hH _ (uH hP)).mono ?_
     rintro e W8 ⟨a2, c2, rfl, hs, h2, hm⟩
     have hzs := hm.size
     have hs2 := zH (hs.mono (P' := fun x => gb < x ∧ x < W8.heap.size ∧ x ≠ b1) (fun x hx => by have := (uH hN).lt; have := (uH hB).lt; have e1 := hx.1; have e2 := hx.lt; exact ⟨by omega, by omega, by omega⟩))
     clear hs
     replace hN := zH ((uH hN).mop (uH hP) hm)
     replace hB := zH ((uH hB).mop (uH hP) hm)
     replace hs1 := zH ((uH hs1).mop (uH hP) hm)
     have hzz := hm.size
     replace hM := zH ((uH hM).trans hm)
     replace hP := zH h2
     clear hm h2
     obtain ⟨p0_hB, p1_hB, p2_hB⟩ := (uH hB).box
     have f0_hB := (uH hB).frozen 0
     have f1_hB := (uH hB).frozen 1
     have f2_hB := (uH hB).frozen 2
     obtain ⟨h2, hM2, hB2, hh⟩ := kid_set (uH hP) (uH hM) (uH hB) (by omega) a2 l.len c2
     have hzz : (W8.setCell ⟨b1, 2, none⟩ (.slice a2 l.len c2)).heap.size = W8.heap.size := by simp
     obtain ⟨W9, hq_W9⟩ : ∃ x, W8.setCell ⟨b1, 2, none⟩ (.slice a2 l.len c2) = x := ⟨_, rfl⟩
     rw [hq_W9] at h2 hM2 hB2 hh hzz
     replace hzz := And.intro (Nat.le_of_eq hzz) (Nat.le_of_eq hzz.symm)
     replace hN := zH ((uH hN).same (hh _ (by omega)))
     replace hs1 := zH ((uH hs1).keep (w' := W9) (fun x hx => hh x (by have e1 := hx.1; omega)))
     replace hs2 := zH ((uH hs2).keep (w' := W9) (fun x hx => hh x (by have e1 := hx.1; omega)))
     replace hB := zH hB2
     replace hM := zH hM2
     replace hP := zH h2
     clear hB2 hM2 h2 hh
     go_wp2_with fail
     clear hq_W9
     refine (paLeave_any (uH hP) (by omega)).mono ?_
     rintro e W10 ⟨rfl, h2, hm⟩
     replace hN := zH ((uH hN).mop (uH hP) hm)
     replace hB := zH ((uH hB).mop (uH hP) hm)
     replace hs1 := zH ((uH hs1).mop (uH hP) hm)
     replace hs2 := zH ((uH hs2).mop (uH hP) hm)
     have hzz := hm.size
     replace hM := zH ((uH hM).trans hm)
     replace hP := zH h2
     clear hm h2
     obtain ⟨p0_hB, p1_hB, p2_hB⟩ := (uH hB).box
     have f0_hB := (uH hB).frozen 0
     have f1_hB := (uH hB).frozen 1
     have f2_hB := (uH hB).frozen 2
     obtain ⟨p0_hN, p1_hN, p2_hN⟩ := (uH hN).box
     have f0_hN := (uH hN).frozen 0
     have f1_hN := (uH hN).frozen 1
     have f2_hN := (uH hN).frozen 2
     have hF := zH (res_fin (k := 6) (t := i) (a := a2) (m := l.len) (c := c2) (f := l) (B := gb) (w := w) (Nat.le_refl gb) (by omega) (uH hN) ((uH hs2).mono (fun x hx => by have e1 := hx.1; exact ⟨by omega, by omega⟩)) (uH hP) (uH hM))
     go_wp2
     obtain ⟨q1, q2, q3, q4⟩ := uH hF
     obtain ⟨u0, u1, u2⟩ := q1.box
     refine bodyPost_ret (v := .agg #[.int .i64 (6), .int .i64 (i), .slice (a2) (l.len) (c2)]) (by simp [results, Tryz.results90, go_sem, u0, u1, u2]) rfl ?_
     exact ⟨_, _, _, rfl, (by first | exact q2 | (rw [hgb]; exact q2)), q3, q4⟩
end Go.Proofs.YtiknnobgoamgcaaGreatDoor

/-
  2 texts in one.
-/
import Derived.Test.YtdjjbdmnjegfjaaB12
/-
  The parser: a list of params, with its row.
-/
namespace Go.Proofs.Ytdjjbdmnjegfjaa
open Go.RowKit Go.Lib Go.Sort
set_option linter.unusedSimpArgs false
set_option linter.unusedVariables false
/-- A list came, in a row of one's own. -/
def ResFR (B : Nat) (g : Nat) (tv : Value) (L : List Tk) (d : Nat) (w : World) (r : PR F) (e : Ending) (w' : World) : Prop := match r with
  | .out => False
  | .bad j => Bad g tv L j w e w'
  | .ok l j => ∃ (a : Option Addr) (c : Nat), e = .returned (.slice a l.len c) ∧ RowP (fun x => B ≤ x) w' B (.slice a l.len c) l ∧ PaW g tv L j d w' ∧ MoP g w w'
set_option maxHeartbeats 4000000 in
set_option maxRecDepth 100000 in
theorem paList_params {g : Nat} {tv : Value} {L : List Tk} {i d : Nat} {w : World} (h : PaW g tv L i d w) {f : Nat} (hf : f ≤ 1000000) (hne : plsA L f i ≠ .out) : Calls Try.prog 59 #[.pointer (some ⟨g, 0, none⟩), .func (.func 60) #[.pointer (some ⟨g, 0, none⟩)] #[]] w fun e w' => ResFR w.heap.size g tv L d w (plsA L f i) e w' := by
  have h0 := hide h
  unfold plsA at hne ⊢
  cases ho : opA L i [41] with
  | true =>
    simp only [ho, if_true] at hne ⊢
    have hP := hide h
    have hM := hide (Moves.refl (fun x => x = g) w)
    go_enter Try.func59, Try.ntmps59
    go_wp2_with fail
    refine (paOp_any _ _).mono ?_
    rintro e W2 ⟨rfl, hb⟩
    have h2 := (unhide hP).below hb
    have hm := mop_below (g := g) hb
    clear hb
    have hzz := hm.size
    replace hM := hide ((unhide hM).trans hm)
    replace hP := hide h2
    clear hm h2
    go_wp2_with fail
    refine (paTake_yes (unhide hP) (opT [41]) (by rw [eqB_op]; exact ho) (opA_lt ho)).mono ?_
    rintro e W3 ⟨rfl, h2, hm⟩
    have hzz := hm.size
    replace hM := hide ((unhide hM).trans hm)
    replace hP := hide h2
    clear hm h2
    go_wp2
    go_ret
    exact ⟨none, 0, rfl, rowP_nil _ _ _, unhide hP, unhide hM⟩
  | false =>
    simp only [ho, Bool.false_eq_true, if_false] at hne ⊢
    have hne1 : typedA L 9 i ≠ .out := fun e => hne (by rw [e]; rfl)
    have hH := hide (fun w h => paParam_any (g := g) (tv := tv) (L := L) (w := w) (i := i) (d := d) h)
    cases hr : typedA L 9 i with
    | out => exact absurd hr hne1
    | bad j =>
      simp only [PR.bind]
      have hP := hide h
      have hM := hide (Moves.refl (fun x => x = g) w)
      go_enter Try.func59, Try.ntmps59
      go_wp2_with fail
      refine (paOp_any _ _).mono ?_
      rintro e W2 ⟨rfl, hb⟩
      have h2 := (unhide hP).below hb
      have hm := mop_below (g := g) hb
      clear hb
      have hzz := hm.size
      replace hM := hide ((unhide hM).trans hm)
      replace hP := hide h2
      clear hm h2
      go_wp2_with fail
      refine (paTake_no (unhide hP) (opT [41]) (by rw [eqB_op]; exact ho)).mono ?_
      rintro e W3 ⟨rfl, h2, hm⟩
      have hzz := hm.size
      replace hM := hide ((unhide hM).trans hm)
      replace hP := hide h2
      clear hm h2
      go_wp2_with fail
      have hC := unhide hH _ (unhide hP)
      rw [hr] at hC
      refine (hC).mono ?_
      rintro e W4 hBad
      obtain rfl := hBad.1
      have hG := hide (hBad.pre (unhide hM))
      clear hBad
      go_wp2
      exact ⟨rfl, unhide hG⟩
    | ok n j0 =>
      obtain ⟨nk, nt, nc⟩ := n
      rw [hr] at hne
      simp only [PR.bind, one] at hne ⊢
      obtain ⟨R, hR⟩ : ∃ R, prsA L f (.cons nk nt nc .nil) j0 = R := ⟨_, rfl⟩
      rw [hR] at hne ⊢
      have hP := hide h
      have hM := hide (Moves.refl (fun x => x = g) w)
      go_enter Try.func59, Try.ntmps59
      go_wp2_with fail
      refine (paOp_any _ _).mono ?_
      rintro e W2 ⟨rfl, hb⟩
      have h2 := (unhide hP).below hb
      have hm := mop_below (g := g) hb
      clear hb
      have hzz := hm.size
      replace hM := hide ((unhide hM).trans hm)
      replace hP := hide h2
      clear hm h2
      go_wp2_with fail
      refine (paTake_no (unhide hP) (opT [41]) (by rw [eqB_op]; exact ho)).mono ?_
      rintro e W3 ⟨rfl, h2, hm⟩
      have hzz := hm.size
      replace hM := hide ((unhide hM).trans hm)
      replace hP := hide h2
      clear hm h2
      go_wp2_with fail
      have hC := unhide hH _ (unhide hP)
      rw [hr] at hC
      refine (hC).mono ?_
      rintro e W9 ⟨a2, m2, c2, rfl, hs, h2, hm⟩
      dsimp only at hs
      replace hM := (unhide hM).trans hm
      have hwl := hM.size
      have hsB : SlQ (fun x => w.heap.size ≤ x) W9 a2 m2 c2 nc := hs.mono (fun x hx => by have e1 := hx.1; omega)
      have hR0 := hide (rowP_one (B := w.heap.size) (k := nk) (t := nt) hwl hsB)
      have hP2 := hide (h2.below (below_alloc W9 (.cells #[.int .i64 nk, .int .i64 nt, .slice a2 m2 c2] 26 (0, 0))))
      have hM2 := hide (hM.trans (mop_below (g := g) (below_alloc W9 (.cells #[.int .i64 nk, .int .i64 nt, .slice a2 m2 c2] 26 (0, 0)))))
      clear hm h2 hC hs hsB hM hP
      obtain ⟨gl, hgl⟩ : ∃ x, W9.heap.size = x := ⟨_, rfl⟩
      obtain ⟨WA, hq_WA⟩ : ∃ x, W9.alloc (.cells #[.int .i64 nk, .int .i64 nt, .slice a2 m2 c2] 26 (0, 0)) = x := ⟨_, rfl⟩
      rw [hq_WA] at hR0 hP2 hM2
      rw [hgl] at hR0
      go_upto_region 4 with fail
      clear hq_WA
      go_loopg [5] f (fun gf s5 wx => ∃ (v5 : Value) (l : F) (j : Nat), v5 = s5 ∧ RowP (fun x => w.heap.size ≤ x) wx w.heap.size s5 l ∧ PaW g tv L j d wx ∧ MoP g w wx ∧ prsA L gf l j = R ∧ l.len + gf ≤ f + 1 ∧ gf ≤ f)
      case atStart => exact ⟨_, _, _, rfl, unhide hR0, unhide hP2, unhide hM2, hR, by simp only [F.len]; omega, Nat.le_refl _⟩
      case round =>
        obtain ⟨v5, l, j, rfl, hRw, hP, hM, hE, hlf, hgf⟩ := hrel
        cases gk with
        | zero =>
          unfold prsA at hE
          exact absurd hE.symm hne
        | succ g' =>
          unfold prsA at hE
          replace hRw := hide hRw
          replace hP := hide hP
          replace hM := hide hM
          clear hR hR0 hP2 hM2
          cases ho : opA L j [44] with
          | true =>
            simp only [ho, if_true] at hE
            have hne1 : typedA L 9 (j + 1) ≠ .out := fun e => hne (by rw [← hE, e]; rfl)
            have hH := hide (fun w h => paParam_any (g := g) (tv := tv) (L := L) (w := w) (i := j + 1) (d := d) h)
            cases hr : typedA L 9 (j + 1) with
            | out => exact absurd hr hne1
            | bad j2 =>
              rw [hr] at hE
              simp only [PR.bind] at hE
              subst hE
              go_wp2_with fail
              refine (paOp_any _ _).mono ?_
              rintro e W20 ⟨rfl, hb⟩
              have h2 := (unhide hP).below hb
              have hm := mop_below (g := g) hb
              clear hb
              replace hRw := hide ((unhide hRw).mop (unhide hP) hm)
              have hzz := hm.size
              replace hM := hide ((unhide hM).trans hm)
              replace hP := hide h2
              clear hm h2
              go_wp2_with fail
              refine (paTake_yes (unhide hP) (opT [44]) (by rw [eqB_op]; exact ho) (opA_lt ho)).mono ?_
              rintro e W21 ⟨rfl, h2, hm⟩
              replace hRw := hide ((unhide hRw).mop (unhide hP) hm)
              have hzz := hm.size
              replace hM := hide ((unhide hM).trans hm)
              replace hP := hide h2
              clear hm h2
              go_wp2_with fail
              have hC := unhide hH _ (unhide hP)
              rw [hr] at hC
              refine (hC).mono ?_
              rintro e W22 hBad
              obtain rfl := hBad.1
              have hG := hide (hBad.pre (unhide hM))
              clear hBad
              go_wp2
              exact ⟨rfl, unhide hG⟩
            | ok n j2 =>
              obtain ⟨nk, nt, nc⟩ := n
              rw [hr] at hE
              simp only [PR.bind, snoc, one] at hE
              go_wp2_with fail
              refine (paOp_any _ _).mono ?_
              rintro e W20 ⟨rfl, hb⟩
              have h2 := (unhide hP).below hb
              have hm := mop_below (g := g) hb
              clear hb
              replace hRw := hide ((unhide hRw).mop (unhide hP) hm)
              have hzz := hm.size
              replace hM := hide ((unhide hM).trans hm)
              replace hP := hide h2
              clear hm h2
              go_wp2_with fail
              refine (paTake_yes (unhide hP) (opT [44]) (by rw [eqB_op]; exact ho) (opA_lt ho)).mono ?_
              rintro e W21 ⟨rfl, h2, hm⟩
              replace hRw := hide ((unhide hRw).mop (unhide hP) hm)
              have hzz := hm.size
              replace hM := hide ((unhide hM).trans hm)
              replace hP := hide h2
              clear hm h2
              go_wp2_with fail
              have hC := unhide hH _ (unhide hP)
              rw [hr] at hC
              refine hC.mono ?_
              rintro e W30 ⟨a2, m2, c2, rfl, hs, h2, hm⟩
              dsimp only at hs
              have hRl := (unhide hRw).lt
              have hRw2 := (unhide hRw).mop (unhide hP) hm
              have hwl := (unhide hM).size
              replace hM := (unhide hM).trans hm
              have hzs := hm.size
              have hz31 := hM.size
              have hs2 : SlQ (fun x => w.heap.size ≤ x) W30 a2 m2 c2 nc := hs.mono (fun x hx => by have e1 := hx.1; omega)
              have hL1 := lit1_sl (P := fun x => w.heap.size ≤ x) W30 nk nt a2 m2 c2 nc hs2 hz31
              have hL2 : SlQ (fun x => w.heap.size ≤ x ∧ v5.ownBlock ≠ some x ∧ x < (W30.alloc (.cells #[.int .i64 nk, .int .i64 nt, .slice a2 m2 c2] 26 (0, 0))).heap.size) (W30.alloc (.cells #[.int .i64 nk, .int .i64 nt, .slice a2 m2 c2] 26 (0, 0))) (some ⟨W30.heap.size, 0, none⟩) 1 1 (.cons nk nt nc .nil) :=
                (lit1_sl (P := fun x => w.heap.size ≤ x ∧ v5.ownBlock ≠ some x) W30 nk nt a2 m2 c2 nc (hs.mono (fun x hx => ⟨by have e1 := hx.1; omega, fun e => by have := hRl x e; have e1 := hx.1; omega⟩)) ⟨hz31, fun e => by have := hRl _ e; omega⟩).mono (fun x hx => ⟨hx.1.1, hx.1.2, hx.lt⟩)
              have hRw3 := hRw2.below (below_alloc W30 (.cells #[.int .i64 nk, .int .i64 nt, .slice a2 m2 c2] 26 (0, 0)))
              have hP3 := hide (h2.below (below_alloc W30 (.cells #[.int .i64 nk, .int .i64 nt, .slice a2 m2 c2] 26 (0, 0))))
              have hM3 := hide (hM.trans (mop_below (g := g) (below_alloc W30 (.cells #[.int .i64 nk, .int .i64 nt, .slice a2 m2 c2] 26 (0, 0)))))
              have hz32 : w.heap.size ≤ (W30.alloc (.cells #[.int .i64 nk, .int .i64 nt, .slice a2 m2 c2] 26 (0, 0))).heap.size := by simp; omega
              clear hL1 hs2 hs h2 hm hM hRw hRw2 hP
              obtain ⟨gl2, hgl2⟩ : ∃ x, W30.heap.size = x := ⟨_, rfl⟩
              obtain ⟨WA, hq_WA⟩ : ∃ x, W30.alloc (.cells #[.int .i64 nk, .int .i64 nt, .slice a2 m2 c2] 26 (0, 0)) = x := ⟨_, rfl⟩
              rw [hq_WA] at hL2 hRw3 hP3 hM3 hz32
              rw [hgl2] at hL2
              replace hL2 := hide hL2
              replace hRw3 := hide hRw3
              have hE' := hide hE
              clear hE
              go_wp2_with (at_builtin; refine wpList_append_rowP rfl (.tmp 15) (.tmp 18) rfl rfl (unhide hRw3) rfl (unhide hL2) (by omega) hz32 ?_)
              intro v4 W40 hR4 hb4 hg4 hl4
              have hP4 := hide ((unhide hP3).belowB (unhide h0) hb4)
              have hM4 := hide (mop_belowB (unhide h0) hb4 hz32 (unhide hM3))
              clear hb4 hg4 hl4 hL2 hRw3 hP3 hM3 hq_WA hgl2
              go_wp2
              go_roundg g'
              case measure => omega
              case rel => exact ⟨_, _, _, rfl, hR4, unhide hP4, unhide hM4, unhide hE', by rw [F.len_app]; simp only [F.len]; omega, by omega⟩
          | false =>
            simp only [ho, Bool.false_eq_true, if_false, wantA] at hE
            cases ho2 : opA L j [41] with
            | false =>
              simp only [ho2, Bool.false_eq_true, if_false] at hE
              subst hE
              go_wp2_with fail
              refine (paOp_any _ _).mono ?_
              rintro e W20 ⟨rfl, hb⟩
              have h2 := (unhide hP).below hb
              have hm := mop_below (g := g) hb
              clear hb
              replace hRw := hide ((unhide hRw).mop (unhide hP) hm)
              have hzz := hm.size
              replace hM := hide ((unhide hM).trans hm)
              replace hP := hide h2
              clear hm h2
              go_wp2_with fail
              refine (paTake_no (unhide hP) (opT [44]) (by rw [eqB_op]; exact ho)).mono ?_
              rintro e W21 ⟨rfl, h2, hm⟩
              replace hRw := hide ((unhide hRw).mop (unhide hP) hm)
              have hzz := hm.size
              replace hM := hide ((unhide hM).trans hm)
              replace hP := hide h2
              clear hm h2
              go_wp2_with fail
              refine (paOp_any _ _).mono ?_
              rintro e W22 ⟨rfl, hb⟩
              have h2 := (unhide hP).below hb
              have hm := mop_below (g := g) hb
              clear hb
              replace hRw := hide ((unhide hRw).mop (unhide hP) hm)
              have hzz := hm.size
              replace hM := hide ((unhide hM).trans hm)
              replace hP := hide h2
              clear hm h2
              go_wp2_with fail
              refine (paWant_no (unhide hP) (opT [41]) (by rw [eqB_op]; exact ho2)).mono ?_
              rintro e W23 hBad
              obtain rfl := hBad.1
              have hG := hide (hBad.pre (unhide hM))
              clear hBad
              go_wp2
              exact ⟨rfl, unhide hG⟩
            | true =>
              simp only [ho2, if_true] at hE
              subst hE
              go_wp2_with fail
              refine (paOp_any _ _).mono ?_
              rintro e W20 ⟨rfl, hb⟩
              have h2 := (unhide hP).below hb
              have hm := mop_below (g := g) hb
              clear hb
              replace hRw := hide ((unhide hRw).mop (unhide hP) hm)
              have hzz := hm.size
              replace hM := hide ((unhide hM).trans hm)
              replace hP := hide h2
              clear hm h2
              go_wp2_with fail
              refine (paTake_no (unhide hP) (opT [44]) (by rw [eqB_op]; exact ho)).mono ?_
              rintro e W21 ⟨rfl, h2, hm⟩
              replace hRw := hide ((unhide hRw).mop (unhide hP) hm)
              have hzz := hm.size
              replace hM := hide ((unhide hM).trans hm)
              replace hP := hide h2
              clear hm h2
              go_wp2_with fail
              refine (paOp_any _ _).mono ?_
              rintro e W22 ⟨rfl, hb⟩
              have h2 := (unhide hP).below hb
              have hm := mop_below (g := g) hb
              clear hb
              replace hRw := hide ((unhide hRw).mop (unhide hP) hm)
              have hzz := hm.size
              replace hM := hide ((unhide hM).trans hm)
              replace hP := hide h2
              clear hm h2
              go_wp2_with fail
              refine (paWant_yes (unhide hP) (opT [41]) (by rw [eqB_op]; exact ho2) (opA_lt ho2)).mono ?_
              rintro e W23 ⟨rfl, h2, hm⟩
              replace hRw := hide ((unhide hRw).mop (unhide hP) hm)
              have hzz := hm.size
              replace hM := hide ((unhide hM).trans hm)
              replace hP := hide h2
              clear hm h2
              obtain ⟨av, cv, rfl, _⟩ := (unhide hRw).sl (fun _ h => h)
              go_wp2
              go_ret
              exact ⟨av, cv, rfl, unhide hRw, unhide hP, unhide hM⟩
end Go.Proofs.Ytdjjbdmnjegfjaa
/-
  The parser: the end of a piece of a file; a struct.
-/
namespace Go.Proofs.Ytdjjbdmnjegfjaa
open Go.RowKit Go.Lib Go.Sort
set_option linter.unusedSimpArgs false
set_option linter.unusedVariables false
set_option maxHeartbeats 4000000 in
set_option maxRecDepth 100000 in
theorem paEnd_no {g : Nat} {tv : Value} {L : List Tk} {i d : Nat} {w : World} (h : PaW g tv L i d w) (hk : knd L i 6 = false) : Calls Try.prog 27 #[.pointer (some ⟨g, 0, none⟩)] w fun e w' => Bad g tv L i w e w' := by
  have hP := hide h
  have hM := hide (Moves.refl (fun x => x = g) w)
  go_enter Try.func27, Try.ntmps27
  go_wp2_with fail
  refine (paWantKind_no (unhide hP) 6 hk).mono ?_
  rintro e W2 hBad
  obtain rfl := hBad.1
  have hG := hide (hBad.pre (unhide hM))
  clear hBad
  go_wp2
  exact ⟨rfl, unhide hG⟩
set_option maxHeartbeats 4000000 in
set_option maxRecDepth 100000 in
theorem paEnd_yes {g : Nat} {tv : Value} {L : List Tk} {i d : Nat} {w : World} (h : PaW g tv L i d w) (hk : knd L i 6 = true) : Calls Try.prog 27 #[.pointer (some ⟨g, 0, none⟩)] w fun e w' => OkV g tv L (.tuple #[]) (skN L (i + 1)) d w e w' := by
  have hP := hide h
  have hM := hide (Moves.refl (fun x => x = g) w)
  go_enter Try.func27, Try.ntmps27
  go_wp2_with fail
  refine (paWantKind_yes (unhide hP) 6 hk (by decide)).mono ?_
  rintro e W2 ⟨rfl, h2, hm⟩
  have hzz := hm.size
  replace hM := hide ((unhide hM).trans hm)
  replace hP := hide h2
  clear hm h2
  go_wp2_with fail
  refine (paSkip_any (unhide hP)).mono ?_
  rintro e W3 ⟨rfl, h2, hm⟩
  have hzz := hm.size
  replace hM := hide ((unhide hM).trans hm)
  replace hP := hide h2
  clear hm h2
  go_wp2
  exact bodyPost_ret (results_none rfl _ _ _) rfl ⟨rfl, unhide hP, unhide hM⟩
set_option maxHeartbeats 4000000 in
set_option maxRecDepth 100000 in
theorem paStructure_any {g : Nat} {tv : Value} {L : List Tk} {i d : Nat} {w : World} (h : PaW g tv L i d w) {f : Nat} (hd : d < 40) (hf : f ≤ 1000000) (hne : strA L f i ≠ .out) : Calls Try.prog 44 #[.pointer (some ⟨g, 0, none⟩)] w fun e w' => ResN w.heap.size g tv L d w (strA L f i) e w' := by
  unfold strA at hne ⊢
  cases h1 : knd L i 1 with
  | false =>
    simp only [leafA, h1, PR.bind, Bool.false_eq_true, if_false]
    clear hne
    have hP := hide (h.alloc (.cells #[.int .i64 0, .int .i64 0, .slice none 0 0] 26 (0, 0))).1
    have hM := hide (h.alloc (.cells #[.int .i64 0, .int .i64 0, .slice none 0 0] 26 (0, 0))).2
    have hN := hide (nblk_new w 0 0 none 0 0)
    obtain ⟨gb, hgb⟩ : ∃ gb, w.heap.size = gb := ⟨_, rfl⟩
    have hz : (w.alloc (.cells #[.int .i64 0, .int .i64 0, .slice none 0 0] 26 (0, 0))).heap.size = gb + 1 := by simp [hgb]
    have hgl : g < gb := by have := h.lt; omega
    rw [hgb] at hN
    obtain ⟨W1, hq_W1⟩ : ∃ W1, w.alloc (.cells #[.int .i64 0, .int .i64 0, .slice none 0 0] 26 (0, 0)) = W1 := ⟨_, rfl⟩
    rw [hq_W1] at hP hM hN hz
    replace hz := And.intro (Nat.le_of_eq hz) (Nat.le_of_eq hz.symm)
    replace h := hide h
    go_enter Try.func44, Try.ntmps44
    go_wp2_with fail
    clear hq_W1
    refine (paNamed_no (unhide hP) 6 h1).mono ?_
    rintro e W2 hBad
    obtain rfl := hBad.1
    have hG := hide (hBad.pre (unhide hM))
    clear hBad
    go_wp2
    exact ⟨rfl, unhide hG⟩
  | true =>
    have e2 : i + 1 + 2 = i + 1 + 1 + 1 := rfl
    simp only [leafA, h1, PR.bind, if_true, wantA] at hne ⊢
    rw [e2] at hne ⊢
    clear e2
    cases h2 : keyA L (i + 1) [115, 116, 114, 117, 99, 116] with
    | false =>
      simp only [Bool.false_eq_true, if_false]
      clear hne
      have hP := hide (h.alloc (.cells #[.int .i64 0, .int .i64 0, .slice none 0 0] 26 (0, 0))).1
      have hM := hide (h.alloc (.cells #[.int .i64 0, .int .i64 0, .slice none 0 0] 26 (0, 0))).2
      have hN := hide (nblk_new w 0 0 none 0 0)
      obtain ⟨gb, hgb⟩ : ∃ gb, w.heap.size = gb := ⟨_, rfl⟩
      have hz : (w.alloc (.cells #[.int .i64 0, .int .i64 0, .slice none 0 0] 26 (0, 0))).heap.size = gb + 1 := by simp [hgb]
      have hgl : g < gb := by have := h.lt; omega
      rw [hgb] at hN
      obtain ⟨W1, hq_W1⟩ : ∃ W1, w.alloc (.cells #[.int .i64 0, .int .i64 0, .slice none 0 0] 26 (0, 0)) = W1 := ⟨_, rfl⟩
      rw [hq_W1] at hP hM hN hz
      replace hz := And.intro (Nat.le_of_eq hz) (Nat.le_of_eq hz.symm)
      replace h := hide h
      have hmf : ∀ (fn : Fn) (first cap : Array Value) (w : World), (Instr.makeFunc fn first cap).run Try.prog w = .ok (.func fn first cap) w := fun _ _ _ _ => rfl
      go_enter Try.func44, Try.ntmps44
      go_wp2_with fail
      clear hq_W1
      refine (paNamed_yes (unhide hP) 6 h1).mono ?_
      rintro e W2 ⟨a1, m1, c1, rfl, hs, h2, hm⟩
      have hzs := hm.size
      have hs1 := hide (hs.mono (P' := fun x => gb < x ∧ x < W2.heap.size) (fun x hx => by have := (unhide hN).lt; have e1 := hx.1; have e2 := hx.lt; exact ⟨by omega, by omega⟩))
      clear hs
      replace hN := hide ((unhide hN).mop (unhide hP) hm)
      have hzz := hm.size
      replace hM := hide ((unhide hM).trans hm)
      replace hP := hide h2
      clear hm h2
      dsimp only at hs1 ⊢
      obtain rfl := sl_empty (unhide hs1)
      obtain ⟨b1, hq_b1⟩ : ∃ x, W2.heap.size = x := ⟨_, rfl⟩
      have hB := hide (nblk_new W2 6 i a1 0 c1)
      have hm := mop_below (g := g) (below_alloc W2 (.cells #[.int .i64 6, .int .i64 i, .slice a1 0 c1] 26 (0, 0)))
      have h2 := (unhide hP).below (below_alloc W2 (.cells #[.int .i64 6, .int .i64 i, .slice a1 0 c1] 26 (0, 0)))
      have hzs : (W2.alloc (.cells #[.int .i64 6, .int .i64 i, .slice a1 0 c1] 26 (0, 0))).heap.size = b1 + 1 := by simp [hq_b1]
      obtain ⟨W3, hq_W3⟩ : ∃ x, W2.alloc (.cells #[.int .i64 6, .int .i64 i, .slice a1 0 c1] 26 (0, 0)) = x := ⟨_, rfl⟩
      rw [hq_W3] at hB hm h2 hzs
      replace hzs := And.intro (Nat.le_of_eq hzs) (Nat.le_of_eq hzs.symm)
      rw [hq_b1] at hB
      replace hq_W3 := hide hq_W3
      replace hN := hide ((unhide hN).mop (unhide hP) hm)
      replace hs1 := hide ((unhide hs1).mop (unhide hP) hm)
      have hzz := hm.size
      replace hM := hide ((unhide hM).trans hm)
      replace hP := hide h2
      clear hm h2
      go_wp2_with fail
      rw [unhide hq_W3]
      clear hq_W3
      refine (paKey_any _ _).mono ?_
      rintro e W4 ⟨rfl, hb⟩
      have h2 := (unhide hP).below hb
      have hm := mop_below (g := g) hb
      clear hb
      replace hN := hide ((unhide hN).mop (unhide hP) hm)
      replace hB := hide ((unhide hB).mop (unhide hP) hm)
      replace hs1 := hide ((unhide hs1).mop (unhide hP) hm)
      have hzz := hm.size
      replace hM := hide ((unhide hM).trans hm)
      replace hP := hide h2
      clear hm h2
      go_wp2_with fail
      refine (paWant_no (unhide hP) (keyT [115, 116, 114, 117, 99, 116]) (by rw [eqB_key]; exact h2)).mono ?_
      rintro e W5 hBad
      obtain rfl := hBad.1
      have hG := hide (hBad.pre (unhide hM))
      clear hBad
      go_wp2
      exact ⟨rfl, unhide hG⟩
    | true =>
      simp only [h2, if_true] at hne ⊢
      cases h3 : opA L (i + 1 + 1) [123] with
      | false =>
        simp only [Bool.false_eq_true, if_false]
        clear hne
        have hP := hide (h.alloc (.cells #[.int .i64 0, .int .i64 0, .slice none 0 0] 26 (0, 0))).1
        have hM := hide (h.alloc (.cells #[.int .i64 0, .int .i64 0, .slice none 0 0] 26 (0, 0))).2
        have hN := hide (nblk_new w 0 0 none 0 0)
        obtain ⟨gb, hgb⟩ : ∃ gb, w.heap.size = gb := ⟨_, rfl⟩
        have hz : (w.alloc (.cells #[.int .i64 0, .int .i64 0, .slice none 0 0] 26 (0, 0))).heap.size = gb + 1 := by simp [hgb]
        have hgl : g < gb := by have := h.lt; omega
        rw [hgb] at hN
        obtain ⟨W1, hq_W1⟩ : ∃ W1, w.alloc (.cells #[.int .i64 0, .int .i64 0, .slice none 0 0] 26 (0, 0)) = W1 := ⟨_, rfl⟩
        rw [hq_W1] at hP hM hN hz
        replace hz := And.intro (Nat.le_of_eq hz) (Nat.le_of_eq hz.symm)
        replace h := hide h
        have hmf : ∀ (fn : Fn) (first cap : Array Value) (w : World), (Instr.makeFunc fn first cap).run Try.prog w = .ok (.func fn first cap) w := fun _ _ _ _ => rfl
        go_enter Try.func44, Try.ntmps44
        go_wp2_with fail
        clear hq_W1
        refine (paNamed_yes (unhide hP) 6 h1).mono ?_
        rintro e W2 ⟨a1, m1, c1, rfl, hs, h2, hm⟩
        have hzs := hm.size
        have hs1 := hide (hs.mono (P' := fun x => gb < x ∧ x < W2.heap.size) (fun x hx => by have := (unhide hN).lt; have e1 := hx.1; have e2 := hx.lt; exact ⟨by omega, by omega⟩))
        clear hs
        replace hN := hide ((unhide hN).mop (unhide hP) hm)
        have hzz := hm.size
        replace hM := hide ((unhide hM).trans hm)
        replace hP := hide h2
        clear hm h2
        dsimp only at hs1 ⊢
        obtain rfl := sl_empty (unhide hs1)
        obtain ⟨b1, hq_b1⟩ : ∃ x, W2.heap.size = x := ⟨_, rfl⟩
        have hB := hide (nblk_new W2 6 i a1 0 c1)
        have hm := mop_below (g := g) (below_alloc W2 (.cells #[.int .i64 6, .int .i64 i, .slice a1 0 c1] 26 (0, 0)))
        have h2 := (unhide hP).below (below_alloc W2 (.cells #[.int .i64 6, .int .i64 i, .slice a1 0 c1] 26 (0, 0)))
        have hzs : (W2.alloc (.cells #[.int .i64 6, .int .i64 i, .slice a1 0 c1] 26 (0, 0))).heap.size = b1 + 1 := by simp [hq_b1]
        obtain ⟨W3, hq_W3⟩ : ∃ x, W2.alloc (.cells #[.int .i64 6, .int .i64 i, .slice a1 0 c1] 26 (0, 0)) = x := ⟨_, rfl⟩
        rw [hq_W3] at hB hm h2 hzs
        replace hzs := And.intro (Nat.le_of_eq hzs) (Nat.le_of_eq hzs.symm)
        rw [hq_b1] at hB
        replace hq_W3 := hide hq_W3
        replace hN := hide ((unhide hN).mop (unhide hP) hm)
        replace hs1 := hide ((unhide hs1).mop (unhide hP) hm)
        have hzz := hm.size
        replace hM := hide ((unhide hM).trans hm)
        replace hP := hide h2
        clear hm h2
        go_wp2_with fail
        rw [unhide hq_W3]
        clear hq_W3
        refine (paKey_any _ _).mono ?_
        rintro e W4 ⟨rfl, hb⟩
        have h2 := (unhide hP).below hb
        have hm := mop_below (g := g) hb
        clear hb
        replace hN := hide ((unhide hN).mop (unhide hP) hm)
        replace hB := hide ((unhide hB).mop (unhide hP) hm)
        replace hs1 := hide ((unhide hs1).mop (unhide hP) hm)
        have hzz := hm.size
        replace hM := hide ((unhide hM).trans hm)
        replace hP := hide h2
        clear hm h2
        go_wp2_with fail
        refine (paWant_yes (unhide hP) (keyT [115, 116, 114, 117, 99, 116]) (by rw [eqB_key]; exact h2) (keyA_lt h2)).mono ?_
        rintro e W5 ⟨rfl, h2, hm⟩
        replace hN := hide ((unhide hN).mop (unhide hP) hm)
        replace hB := hide ((unhide hB).mop (unhide hP) hm)
        replace hs1 := hide ((unhide hs1).mop (unhide hP) hm)
        have hzz := hm.size
        replace hM := hide ((unhide hM).trans hm)
        replace hP := hide h2
        clear hm h2
        go_wp2_with fail
        refine (paOp_any _ _).mono ?_
        rintro e W6 ⟨rfl, hb⟩
        have h2 := (unhide hP).below hb
        have hm := mop_below (g := g) hb
        clear hb
        replace hN := hide ((unhide hN).mop (unhide hP) hm)
        replace hB := hide ((unhide hB).mop (unhide hP) hm)
        replace hs1 := hide ((unhide hs1).mop (unhide hP) hm)
        have hzz := hm.size
        replace hM := hide ((unhide hM).trans hm)
        replace hP := hide h2
        clear hm h2
        go_wp2_with fail
        refine (paOpen_no (unhide hP) hd (opT [123]) (by rw [eqB_op]; exact h3)).mono ?_
        rintro e W7 hBad
        obtain rfl := hBad.1
        have hG := hide (hBad.pre (unhide hM))
        clear hBad
        go_wp2
        exact ⟨rfl, unhide hG⟩
      | true =>
        simp only [h3, if_true] at hne ⊢
        have hne1 : fldA L f .nil (skN L (i + 1 + 1 + 1)) ≠ .out := fun e => hne (by rw [e])
        have hH := hide (fun w h => paBraces_fields (g := g) (tv := tv) (L := L) (w := w) (i := i + 1 + 1 + 1) (d := d + 1) h (fun w i h => paField_any h) hf hne1)
        clear hne
        cases hr : fldA L f .nil (skN L (i + 1 + 1 + 1)) with
        | out => exact absurd hr hne1
        | bad j =>
          rw [hr] at hH
          dsimp only
          have hP := hide (h.alloc (.cells #[.int .i64 0, .int .i64 0, .slice none 0 0] 26 (0, 0))).1
          have hM := hide (h.alloc (.cells #[.int .i64 0, .int .i64 0, .slice none 0 0] 26 (0, 0))).2
          have hN := hide (nblk_new w 0 0 none 0 0)
          obtain ⟨gb, hgb⟩ : ∃ gb, w.heap.size = gb := ⟨_, rfl⟩
          have hz : (w.alloc (.cells #[.int .i64 0, .int .i64 0, .slice none 0 0] 26 (0, 0))).heap.size = gb + 1 := by simp [hgb]
          have hgl : g < gb := by have := h.lt; omega
          rw [hgb] at hN
          obtain ⟨W1, hq_W1⟩ : ∃ W1, w.alloc (.cells #[.int .i64 0, .int .i64 0, .slice none 0 0] 26 (0, 0)) = W1 := ⟨_, rfl⟩
          rw [hq_W1] at hP hM hN hz
          replace hz := And.intro (Nat.le_of_eq hz) (Nat.le_of_eq hz.symm)
          replace h := hide h
          have hmf : ∀ (fn : Fn) (first cap : Array Value) (w : World), (Instr.makeFunc fn first cap).run Try.prog w = .ok (.func fn first cap) w := fun _ _ _ _ => rfl
          go_enter Try.func44, Try.ntmps44
          go_wp2_with fail
          clear hq_W1
          refine (paNamed_yes (unhide hP) 6 h1).mono ?_
          rintro e W2 ⟨a1, m1, c1, rfl, hs, h2, hm⟩
          have hzs := hm.size
          have hs1 := hide (hs.mono (P' := fun x => gb < x ∧ x < W2.heap.size) (fun x hx => by have := (unhide hN).lt; have e1 := hx.1; have e2 := hx.lt; exact ⟨by omega, by omega⟩))
          clear hs
          replace hN := hide ((unhide hN).mop (unhide hP) hm)
          have hzz := hm.size
          replace hM := hide ((unhide hM).trans hm)
          replace hP := hide h2
          clear hm h2
          dsimp only at hs1 ⊢
          obtain rfl := sl_empty (unhide hs1)
          obtain ⟨b1, hq_b1⟩ : ∃ x, W2.heap.size = x := ⟨_, rfl⟩
          have hB := hide (nblk_new W2 6 i a1 0 c1)
          have hm := mop_below (g := g) (below_alloc W2 (.cells #[.int .i64 6, .int .i64 i, .slice a1 0 c1] 26 (0, 0)))
          have h2 := (unhide hP).below (below_alloc W2 (.cells #[.int .i64 6, .int .i64 i, .slice a1 0 c1] 26 (0, 0)))
          have hzs : (W2.alloc (.cells #[.int .i64 6, .int .i64 i, .slice a1 0 c1] 26 (0, 0))).heap.size = b1 + 1 := by simp [hq_b1]
          obtain ⟨W3, hq_W3⟩ : ∃ x, W2.alloc (.cells #[.int .i64 6, .int .i64 i, .slice a1 0 c1] 26 (0, 0)) = x := ⟨_, rfl⟩
          rw [hq_W3] at hB hm h2 hzs
          replace hzs := And.intro (Nat.le_of_eq hzs) (Nat.le_of_eq hzs.symm)
          rw [hq_b1] at hB
          replace hq_W3 := hide hq_W3
          replace hN := hide ((unhide hN).mop (unhide hP) hm)
          replace hs1 := hide ((unhide hs1).mop (unhide hP) hm)
          have hzz := hm.size
          replace hM := hide ((unhide hM).trans hm)
          replace hP := hide h2
          clear hm h2
          go_wp2_with fail
          rw [unhide hq_W3]
          clear hq_W3
          refine (paKey_any _ _).mono ?_
          rintro e W4 ⟨rfl, hb⟩
          have h2 := (unhide hP).below hb
          have hm := mop_below (g := g) hb
          clear hb
          replace hN := hide ((unhide hN).mop (unhide hP) hm)
          replace hB := hide ((unhide hB).mop (unhide hP) hm)
          replace hs1 := hide ((unhide hs1).mop (unhide hP) hm)
          have hzz := hm.size
          replace hM := hide ((unhide hM).trans hm)
          replace hP := hide h2
          clear hm h2
          go_wp2_with fail
          refine (paWant_yes (unhide hP) (keyT [115, 116, 114, 117, 99, 116]) (by rw [eqB_key]; exact h2) (keyA_lt h2)).mono ?_
          rintro e W5 ⟨rfl, h2, hm⟩
          replace hN := hide ((unhide hN).mop (unhide hP) hm)
          replace hB := hide ((unhide hB).mop (unhide hP) hm)
          replace hs1 := hide ((unhide hs1).mop (unhide hP) hm)
          have hzz := hm.size
          replace hM := hide ((unhide hM).trans hm)
          replace hP := hide h2
          clear hm h2
          go_wp2_with fail
          refine (paOp_any _ _).mono ?_
          rintro e W6 ⟨rfl, hb⟩
          have h2 := (unhide hP).below hb
          have hm := mop_below (g := g) hb
          clear hb
          replace hN := hide ((unhide hN).mop (unhide hP) hm)
          replace hB := hide ((unhide hB).mop (unhide hP) hm)
          replace hs1 := hide ((unhide hs1).mop (unhide hP) hm)
          have hzz := hm.size
          replace hM := hide ((unhide hM).trans hm)
          replace hP := hide h2
          clear hm h2
          go_wp2_with fail
          refine (paOpen_yes (unhide hP) hd (opT [123]) (by rw [eqB_op]; exact h3) (opA_lt h3)).mono ?_
          rintro e W7 ⟨rfl, h2, hm⟩
          replace hN := hide ((unhide hN).mop (unhide hP) hm)
          replace hB := hide ((unhide hB).mop (unhide hP) hm)
          replace hs1 := hide ((unhide hs1).mop (unhide hP) hm)
          have hzz := hm.size
          replace hM := hide ((unhide hM).trans hm)
          replace hP := hide h2
          clear hm h2
          go_wp2_with fail
          refine (unhide hH _ (unhide hP)).mono ?_
          rintro e W8 hBad
          obtain rfl := hBad.1
          have hG := hide (hBad.pre (unhide hM))
          clear hBad
          go_wp2
          exact ⟨rfl, unhide hG⟩
        | ok l j =>
          rw [hr] at hH
          dsimp only
          have hP := hide (h.alloc (.cells #[.int .i64 0, .int .i64 0, .slice none 0 0] 26 (0, 0))).1
          have hM := hide (h.alloc (.cells #[.int .i64 0, .int .i64 0, .slice none 0 0] 26 (0, 0))).2
          have hN := hide (nblk_new w 0 0 none 0 0)
          obtain ⟨gb, hgb⟩ : ∃ gb, w.heap.size = gb := ⟨_, rfl⟩
          have hz : (w.alloc (.cells #[.int .i64 0, .int .i64 0, .slice none 0 0] 26 (0, 0))).heap.size = gb + 1 := by simp [hgb]
          have hgl : g < gb := by have := h.lt; omega
          rw [hgb] at hN
          obtain ⟨W1, hq_W1⟩ : ∃ W1, w.alloc (.cells #[.int .i64 0, .int .i64 0, .slice none 0 0] 26 (0, 0)) = W1 := ⟨_, rfl⟩
          rw [hq_W1] at hP hM hN hz
          replace hz := And.intro (Nat.le_of_eq hz) (Nat.le_of_eq hz.symm)
          replace h := hide h
          have hmf : ∀ (fn : Fn) (first cap : Array Value) (w : World), (Instr.makeFunc fn first cap).run Try.prog w = .ok (.func fn first cap) w := fun _ _ _ _ => rfl
          go_enter Try.func44, Try.ntmps44
          go_wp2_with fail
          clear hq_W1
          refine (paNamed_yes (unhide hP) 6 h1).mono ?_
          rintro e W2 ⟨a1, m1, c1, rfl, hs, h2, hm⟩
          have hzs := hm.size
          have hs1 := hide (hs.mono (P' := fun x => gb < x ∧ x < W2.heap.size) (fun x hx => by have := (unhide hN).lt; have e1 := hx.1; have e2 := hx.lt; exact ⟨by omega, by omega⟩))
          clear hs
          replace hN := hide ((unhide hN).mop (unhide hP) hm)
          have hzz := hm.size
          replace hM := hide ((unhide hM).trans hm)
          replace hP := hide h2
          clear hm h2
          dsimp only at hs1 ⊢
          obtain rfl := sl_empty (unhide hs1)
          obtain ⟨b1, hq_b1⟩ : ∃ x, W2.heap.size = x := ⟨_, rfl⟩
          have hB := hide (nblk_new W2 6 i a1 0 c1)
          have hm := mop_below (g := g) (below_alloc W2 (.cells #[.int .i64 6, .int .i64 i, .slice a1 0 c1] 26 (0, 0)))
          have h2 := (unhide hP).below (below_alloc W2 (.cells #[.int .i64 6, .int .i64 i, .slice a1 0 c1] 26 (0, 0)))
          have hzs : (W2.alloc (.cells #[.int .i64 6, .int .i64 i, .slice a1 0 c1] 26 (0, 0))).heap.size = b1 + 1 := by simp [hq_b1]
          obtain ⟨W3, hq_W3⟩ : ∃ x, W2.alloc (.cells #[.int .i64 6, .int .i64 i, .slice a1 0 c1] 26 (0, 0)) = x := ⟨_, rfl⟩
          rw [hq_W3] at hB hm h2 hzs
          replace hzs := And.intro (Nat.le_of_eq hzs) (Nat.le_of_eq hzs.symm)
          rw [hq_b1] at hB
          replace hq_W3 := hide hq_W3
          replace hN := hide ((unhide hN).mop (unhide hP) hm)
          replace hs1 := hide ((unhide hs1).mop (unhide hP) hm)
          have hzz := hm.size
          replace hM := hide ((unhide hM).trans hm)
          replace hP := hide h2
          clear hm h2
          go_wp2_with fail
          rw [unhide hq_W3]
          clear hq_W3
          refine (paKey_any _ _).mono ?_
          rintro e W4 ⟨rfl, hb⟩
          have h2 := (unhide hP).below hb
          have hm := mop_below (g := g) hb
          clear hb
          replace hN := hide ((unhide hN).mop (unhide hP) hm)
          replace hB := hide ((unhide hB).mop (unhide hP) hm)
          replace hs1 := hide ((unhide hs1).mop (unhide hP) hm)
          have hzz := hm.size
          replace hM := hide ((unhide hM).trans hm)
          replace hP := hide h2
          clear hm h2
          go_wp2_with fail
          refine (paWant_yes (unhide hP) (keyT [115, 116, 114, 117, 99, 116]) (by rw [eqB_key]; exact h2) (keyA_lt h2)).mono ?_
          rintro e W5 ⟨rfl, h2, hm⟩
          replace hN := hide ((unhide hN).mop (unhide hP) hm)
          replace hB := hide ((unhide hB).mop (unhide hP) hm)
          replace hs1 := hide ((unhide hs1).mop (unhide hP) hm)
          have hzz := hm.size
          replace hM := hide ((unhide hM).trans hm)
          replace hP := hide h2
          clear hm h2
          go_wp2_with fail
          refine (paOp_any _ _).mono ?_
          rintro e W6 ⟨rfl, hb⟩
          have h2 := (unhide hP).below hb
          have hm := mop_below (g := g) hb
          clear hb
          replace hN := hide ((unhide hN).mop (unhide hP) hm)
          replace hB := hide ((unhide hB).mop (unhide hP) hm)
          replace hs1 := hide ((unhide hs1).mop (unhide hP) hm)
          have hzz := hm.size
          replace hM := hide ((unhide hM).trans hm)
          replace hP := hide h2
          clear hm h2
          go_wp2_with fail
          refine (paOpen_yes (unhide hP) hd (opT [123]) (by rw [eqB_op]; exact h3) (opA_lt h3)).mono ?_
          rintro e W7 ⟨rfl, h2, hm⟩
          replace hN := hide ((unhide hN).mop (unhide hP) hm)
          replace hB := hide ((unhide hB).mop (unhide hP) hm)
          replace hs1 := hide ((unhide hs1).mop (unhide hP) hm)
          have hzz := hm.size
          replace hM := hide ((unhide hM).trans hm)
          replace hP := hide h2
          clear hm h2
          go_wp2_with fail
          refine (unhide hH _ (unhide hP)).mono ?_
          rintro e W8 ⟨a2, c2, rfl, hs, h2, hm⟩
          have hzs := hm.size
          have hs2 := hide (hs.mono (P' := fun x => gb < x ∧ x < W8.heap.size ∧ x ≠ b1) (fun x hx => by have := (unhide hN).lt; have := (unhide hB).lt; have e1 := hx.1; have e2 := hx.lt; exact ⟨by omega, by omega, by omega⟩))
          clear hs
          replace hN := hide ((unhide hN).mop (unhide hP) hm)
          replace hB := hide ((unhide hB).mop (unhide hP) hm)
          replace hs1 := hide ((unhide hs1).mop (unhide hP) hm)
          have hzz := hm.size
          replace hM := hide ((unhide hM).trans hm)
          replace hP := hide h2
          clear hm h2
          obtain ⟨p0_hB, p1_hB, p2_hB⟩ := (unhide hB).box
          have f0_hB := (unhide hB).frozen 0
          have f1_hB := (unhide hB).frozen 1
          have f2_hB := (unhide hB).frozen 2
          obtain ⟨h2, hM2, hB2, hh⟩ := kid_set (unhide hP) (unhide hM) (unhide hB) (by omega) a2 l.len c2
          have hzz : (W8.setCell ⟨b1, 2, none⟩ (.slice a2 l.len c2)).heap.size = W8.heap.size := by simp
          obtain ⟨W9, hq_W9⟩ : ∃ x, W8.setCell ⟨b1, 2, none⟩ (.slice a2 l.len c2) = x := ⟨_, rfl⟩
          rw [hq_W9] at h2 hM2 hB2 hh hzz
          replace hzz := And.intro (Nat.le_of_eq hzz) (Nat.le_of_eq hzz.symm)
          replace hN := hide ((unhide hN).same (hh _ (by omega)))
          replace hs1 := hide ((unhide hs1).keep (w' := W9) (fun x hx => hh x (by have e1 := hx.1; omega)))
          replace hs2 := hide ((unhide hs2).keep (w' := W9) (fun x hx => hh x (by have e1 := hx.1; omega)))
          replace hB := hide hB2
          replace hM := hide hM2
          replace hP := hide h2
          clear hB2 hM2 h2 hh
          go_wp2_with fail
          clear hq_W9
          refine (paLeave_any (unhide hP) (by omega)).mono ?_
          rintro e W10 ⟨rfl, h2, hm⟩
          replace hN := hide ((unhide hN).mop (unhide hP) hm)
          replace hB := hide ((unhide hB).mop (unhide hP) hm)
          replace hs1 := hide ((unhide hs1).mop (unhide hP) hm)
          replace hs2 := hide ((unhide hs2).mop (unhide hP) hm)
          have hzz := hm.size
          replace hM := hide ((unhide hM).trans hm)
          replace hP := hide h2
          clear hm h2
          obtain ⟨p0_hB, p1_hB, p2_hB⟩ := (unhide hB).box
          have f0_hB := (unhide hB).frozen 0
          have f1_hB := (unhide hB).frozen 1
          have f2_hB := (unhide hB).frozen 2
          obtain ⟨p0_hN, p1_hN, p2_hN⟩ := (unhide hN).box
          have f0_hN := (unhide hN).frozen 0
          have f1_hN := (unhide hN).frozen 1
          have f2_hN := (unhide hN).frozen 2
          have hF := hide (res_fin (k := 6) (t := i) (a := a2) (m := l.len) (c := c2) (f := l) (B := gb) (w := w) (Nat.le_refl gb) (by omega) (unhide hN) ((unhide hs2).mono (fun x hx => by have e1 := hx.1; exact ⟨by omega, by omega⟩)) (unhide hP) (unhide hM))
          go_wp2
          obtain ⟨q1, q2, q3, q4⟩ := unhide hF
          obtain ⟨u0, u1, u2⟩ := q1.box
          refine bodyPost_ret (v := .agg #[.int .i64 (6), .int .i64 (i), .slice (a2) (l.len) (c2)]) (by simp [results, Try.results44, go_sem, u0, u1, u2]) rfl ?_
          exact ⟨_, _, _, rfl, (by first | exact q2 | (rw [hgb]; exact q2)), q3, q4⟩
end Go.Proofs.Ytdjjbdmnjegfjaa

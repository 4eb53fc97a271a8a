/-
  The law's turn: one node of a tree is turned.
-/
import Derived.Test.YthnapcdanccohaaDoorNdTurn
import Derived.Deep.LoopGhost
namespace Go.Proofs.YthnapcdanccohaaDoor
open Go.RowKit Go.Lib Go.Sort
set_option linter.unusedSimpArgs false
set_option linter.unusedVariables false
theorem turn_self {P : Nat → Prop} {w : World} {gk g o q : Nat} {k t x : Int} {c r : F} (hg : g ≠ gk) (hcw : Cell1 w gk 3 (.int .i64 0)) (ht : TagQ P w g) (hn : NdQ P w (.cons k t c r) g o) (hq : (q = o ∧ x = k) ∨ (q = o + 1 ∧ x = t)) :
    TurnP P gk g o 0 1 ⟨k, t, c⟩ w ((w.setCell ⟨g, q, none⟩ (.int .i64 (wrap64 (x + 1)))).setCell ⟨gk, 0, none⟩ (.int .i64 (-1))) := by
  have hx : w.cell? ⟨g, q, none⟩ = some (.int .i64 x) := by
    obtain ⟨h0, h1, _⟩ := hn
    rcases hq with ⟨rfl, rfl⟩ | ⟨rfl, rfl⟩
    · exact h0
    · exact h1
  have hc1 : Cell1 (w.setCell ⟨g, q, none⟩ (.int .i64 (wrap64 (x + 1)))) gk 3 (.int .i64 0) := hcw.same (Below.heap_setCell _ _ _ _ (Ne.symm hg))
  refine ⟨hc1.set _, .inr ⟨by omega, g, q, x, hx, ht, same1_set gk 0 _ _, fun Q k' t' c' r' hn' e => ?_⟩⟩
  obtain ⟨rfl, rfl, rfl⟩ : k' = k ∧ t' = t ∧ c' = c := by simpa using e
  have hy : ((w.setCell ⟨g, q, none⟩ (.int .i64 (wrap64 (x + 1)))).setCell ⟨gk, 0, none⟩ (.int .i64 (-1))).cell? ⟨g, q, none⟩ = some (.int .i64 (wrap64 (x + 1))) := by
    rw [World.cell?_setCell_far _ _ _ _ (Ne.symm hg)]
    exact World.cell?_setCell_same _ _ _ hx
  obtain ⟨h0, h1, _⟩ := hn'
  have := wrap_ne x
  rcases hq with ⟨rfl, rfl⟩ | ⟨rfl, rfl⟩
  · rw [h0] at hy
    simp at hy
    omega
  · rw [h1] at hy
    simp at hy
    omega
set_option maxHeartbeats 4000000 in
set_option maxRecDepth 100000 in
theorem nlTurn_any (P : Nat → Prop) (gk : Nat) (b : Bool) : ∀ (N : Nat) (w : World) (g o : Nat) (k t : Int) (c r : F) (z : Int), c.size < N → N ≤ 1000000 → -9000000000000000000 ≤ z - (c.size + 1 : Nat) → z ≤ 9000000000000000000 → TagQ P w g → NdQ P w (.cons k t c r) g o → Cell1 w gk 3 (.int .i64 z) →
    Calls Tryd.prog 20 #[.pointer (some ⟨g, o, none⟩), .pointer (some ⟨gk, 0, none⟩), .bool b] w fun e w' => e = .returned (.tuple #[]) ∧ TurnP P gk g o z (c.size + 1) ⟨k, t, c⟩ w w' := by
  intro N
  induction N with
  | zero => intro w g o k t c r z hN; omega
  | succ N ih =>
    intro w g o k t c r z hN hN2 hz1 hz2 ht hn hcw
    replace ih := hide ih
    have hg := tag_ne hcw ht
    obtain ⟨x0, x1, ⟨a, n, cap, x2, hs⟩, hn4⟩ := NdQ.cons_iff.1 hn
    have hfr : ∀ o', w.frozen? ⟨g, o', none⟩ = false := fun o' => by
      obtain ⟨_, cur, hh⟩ := ht
      exact Joins.unfrozen_of_block hh o'
    have f0 := hfr o
    have f1 := hfr (o + 1)
    have hc := hcw.cell
    have hf := hcw.frozen
    have hlen : n = c.len := hs.1
    have hcs := c.len_le_size
    have hgk : (⟨gk, 0, none⟩ : Addr) ≠ ⟨g, o, none⟩ := fun e => by injection e with e; exact hg e.symm
    -- WAYS
    by_cases hz0 : z = 0
    · have hzz : (z == 0) = true := by simpa using hz0
      have ez : z - 1 = -1 := by omega
      cases b
      · have hc2 : (w.setCell ⟨g, o + 1, none⟩ (.int .i64 (wrap64 (t + 1)))).cell? ⟨gk, 0, none⟩ = some (.int .i64 z) := by rw [World.cell?_setCell_far _ _ _ _ hg]; exact hc
        have hf2 : (w.setCell ⟨g, o + 1, none⟩ (.int .i64 (wrap64 (t + 1)))).frozen? ⟨gk, 0, none⟩ = false := (hcw.same (Below.heap_setCell _ _ _ _ (Ne.symm hg))).frozen
        replace hs := hide hs
        replace hcw := hide hcw
        have hT0 : Hid (TurnP P gk g o z 1 ⟨k, t, c⟩ w ((w.setCell ⟨g, o + 1, none⟩ (.int .i64 (wrap64 (t + 1)))).setCell ⟨gk, 0, none⟩ (.int .i64 (-1)))) := hide (by subst hz0; exact turn_self hg (unhide hcw) ht hn (.inr ⟨rfl, rfl⟩))
        replace ht := hide ht
        replace hn := hide hn
        clear hfr hn4
        replace ez := hide ez
        go_enter Tryd.func20, Tryd.ntmps20
        go_upto_region 5 with fail
        generalize ((w.setCell ⟨g, o + 1, none⟩ (.int .i64 (wrap64 (t + 1)))).setCell ⟨gk, 0, none⟩ (.int .i64 (-1))) = W1 at hT0 ⊢
        clear f0 f1 hc hf
        have hTs := (unhide hT0).slice hg x2
        go_wp2
        go_loopg [6] n (fun gf s6 wx => ∃ i : Nat, s6 = .int .i64 i ∧ i + gf = n ∧ TurnP P gk g o z (1 + (c.size - (c.drop i).size)) ⟨k, t, c⟩ w wx)
        case atStart => exact ⟨0, rfl, by omega, by rw [F.drop_zero, Nat.sub_self]; exact unhide hT0⟩
        case round =>
          clear hTs
          obtain ⟨i, rfl, hig, hT⟩ := hrel
          have hTr := hT.slice hg x2
          by_cases hlt : i < n
          · have hlz : (i : Int) < n := by omega
            obtain ⟨c', hs', hsh, hce⟩ := hT.sl (unhide hcw) (unhide hs)
            obtain ⟨g1, o1, ea, ht1, hc1⟩ := hs'.2.2.2 (by omega)
            subst ea
            obtain ⟨k2, t2, c2, hd2⟩ := F.drop_cons (f := c') (i := i) (by rw [← hs'.1]; exact hlt)
            obtain ⟨ki, ti, ci, hdi⟩ := F.drop_cons (f := c) (i := i) (by rw [← hlen]; exact hlt)
            have hn2 := hc1.drop i
            rw [hd2] at hn2
            have hsz := (hsh.drop i)
            rw [hd2, hdi] at hsz
            have hsz2 := hsz.1.size
            have hst := drop_size_step hdi
            have hle := drop_size_le c i
            have hg1 := tag_ne hT.1 ht1
            have hH := unhide ih wr g1 (o1 + i * 3) k2 t2 c2 _ (z - (1 + (c.size - (c.drop i).size) : Nat)) (by omega) (by omega) (by omega) (by omega) ht1 hn2 hT.1
            have hstep := hide (fun w' hx => TurnP.step (w' := w') (s' := c2.size + 1) (k2 := k2) (t2 := t2) (c2 := c2) hT hg x2 hlt hdi (unhide hcw) hx (fun h => by
              have e := hce h
              rw [e, hdi] at hd2
              injection hd2 with e1 e2 e3
              rw [e1, e2, e3]) (by omega))
            have hnum : 1 + (c.size - (c.drop i).size) + (c2.size + 1) = 1 + (c.size - (c.drop (i + 1)).size) := by omega
            replace hnum := hide hnum
            replace hH := hide hH
            clear hs' hc1 hd2 hdi hn2 hsz hsz2 hst hle ht1 hT hce hsh
            obtain ⟨g', rfl⟩ : ∃ g', gk = g' + 1 := ⟨gk - 1, by omega⟩
            go_wp2_with fail
            refine (unhide hH).mono ?_
            rintro e W4 ⟨rfl, hT4⟩
            have hT5 := unhide hstep W4 hT4
            rw [unhide hnum] at hT5
            clear hH hT4 hstep hTr
            replace hT5 := hide hT5
            go_wp2
            go_roundg g'
            case measure => omega
            case rel => exact ⟨i + 1, by go_num, by omega, unhide hT5⟩
          · have hlz : ¬ (i : Int) < n := by omega
            have hde : (c.drop i).size = 0 := by rw [F.drop_end (by omega)]; rfl
            rw [hde] at hT
            have e1 : 1 + (c.size - 0) = c.size + 1 := by omega
            rw [e1] at hT
            replace hT := hide hT
            clear hde
            go_wp2
            exact ⟨rfl, _, results_none rfl _ _ _, rfl, (by first | exact unhide hT | (have h := unhide hT; simp only [hz0] at h; exact h))⟩
      · have hc2 : (w.setCell ⟨g, o, none⟩ (.int .i64 (wrap64 (k + 1)))).cell? ⟨gk, 0, none⟩ = some (.int .i64 z) := by rw [World.cell?_setCell_far _ _ _ _ hg]; exact hc
        have hf2 : (w.setCell ⟨g, o, none⟩ (.int .i64 (wrap64 (k + 1)))).frozen? ⟨gk, 0, none⟩ = false := (hcw.same (Below.heap_setCell _ _ _ _ (Ne.symm hg))).frozen
        replace hs := hide hs
        replace hcw := hide hcw
        have hT0 : Hid (TurnP P gk g o z 1 ⟨k, t, c⟩ w ((w.setCell ⟨g, o, none⟩ (.int .i64 (wrap64 (k + 1)))).setCell ⟨gk, 0, none⟩ (.int .i64 (-1)))) := hide (by subst hz0; exact turn_self hg (unhide hcw) ht hn (.inl ⟨rfl, rfl⟩))
        replace ht := hide ht
        replace hn := hide hn
        clear hfr hn4
        replace ez := hide ez
        go_enter Tryd.func20, Tryd.ntmps20
        go_upto_region 5 with fail
        generalize ((w.setCell ⟨g, o, none⟩ (.int .i64 (wrap64 (k + 1)))).setCell ⟨gk, 0, none⟩ (.int .i64 (-1))) = W1 at hT0 ⊢
        clear f0 f1 hc hf
        have hTs := (unhide hT0).slice hg x2
        go_wp2
        go_loopg [6] n (fun gf s6 wx => ∃ i : Nat, s6 = .int .i64 i ∧ i + gf = n ∧ TurnP P gk g o z (1 + (c.size - (c.drop i).size)) ⟨k, t, c⟩ w wx)
        case atStart => exact ⟨0, rfl, by omega, by rw [F.drop_zero, Nat.sub_self]; exact unhide hT0⟩
        case round =>
          clear hTs
          obtain ⟨i, rfl, hig, hT⟩ := hrel
          have hTr := hT.slice hg x2
          by_cases hlt : i < n
          · have hlz : (i : Int) < n := by omega
            obtain ⟨c', hs', hsh, hce⟩ := hT.sl (unhide hcw) (unhide hs)
            obtain ⟨g1, o1, ea, ht1, hc1⟩ := hs'.2.2.2 (by omega)
            subst ea
            obtain ⟨k2, t2, c2, hd2⟩ := F.drop_cons (f := c') (i := i) (by rw [← hs'.1]; exact hlt)
            obtain ⟨ki, ti, ci, hdi⟩ := F.drop_cons (f := c) (i := i) (by rw [← hlen]; exact hlt)
            have hn2 := hc1.drop i
            rw [hd2] at hn2
            have hsz := (hsh.drop i)
            rw [hd2, hdi] at hsz
            have hsz2 := hsz.1.size
            have hst := drop_size_step hdi
            have hle := drop_size_le c i
            have hg1 := tag_ne hT.1 ht1
            have hH := unhide ih wr g1 (o1 + i * 3) k2 t2 c2 _ (z - (1 + (c.size - (c.drop i).size) : Nat)) (by omega) (by omega) (by omega) (by omega) ht1 hn2 hT.1
            have hstep := hide (fun w' hx => TurnP.step (w' := w') (s' := c2.size + 1) (k2 := k2) (t2 := t2) (c2 := c2) hT hg x2 hlt hdi (unhide hcw) hx (fun h => by
              have e := hce h
              rw [e, hdi] at hd2
              injection hd2 with e1 e2 e3
              rw [e1, e2, e3]) (by omega))
            have hnum : 1 + (c.size - (c.drop i).size) + (c2.size + 1) = 1 + (c.size - (c.drop (i + 1)).size) := by omega
            replace hnum := hide hnum
            replace hH := hide hH
            clear hs' hc1 hd2 hdi hn2 hsz hsz2 hst hle ht1 hT hce hsh
            obtain ⟨g', rfl⟩ : ∃ g', gk = g' + 1 := ⟨gk - 1, by omega⟩
            go_wp2_with fail
            refine (unhide hH).mono ?_
            rintro e W4 ⟨rfl, hT4⟩
            have hT5 := unhide hstep W4 hT4
            rw [unhide hnum] at hT5
            clear hH hT4 hstep hTr
            replace hT5 := hide hT5
            go_wp2
            go_roundg g'
            case measure => omega
            case rel => exact ⟨i + 1, by go_num, by omega, unhide hT5⟩
          · have hlz : ¬ (i : Int) < n := by omega
            have hde : (c.drop i).size = 0 := by rw [F.drop_end (by omega)]; rfl
            rw [hde] at hT
            have e1 : 1 + (c.size - 0) = c.size + 1 := by omega
            rw [e1] at hT
            replace hT := hide hT
            clear hde
            go_wp2
            exact ⟨rfl, _, results_none rfl _ _ _, rfl, (by first | exact unhide hT | (have h := unhide hT; simp only [hz0] at h; exact h))⟩
    · have hzz : (z == 0) = false := by simpa using hz0
      replace hs := hide hs
      replace hcw := hide hcw
      have hT0 : Hid (TurnP P gk g o z 1 ⟨k, t, c⟩ w (w.setCell ⟨gk, 0, none⟩ (.int .i64 (z - 1)))) := hide (⟨(unhide hcw).set _, .inl ⟨by omega, same1_set _ _ _ _⟩⟩)
      replace ht := hide ht
      replace hn := hide hn
      clear hfr hn4
      go_enter Tryd.func20, Tryd.ntmps20
      go_upto_region 5 with fail
      generalize (w.setCell ⟨gk, 0, none⟩ (.int .i64 (z - 1))) = W1 at hT0 ⊢
      clear f0 f1 hc hf
      have hTs := (unhide hT0).slice hg x2
      go_wp2
      go_loopg [6] n (fun gf s6 wx => ∃ i : Nat, s6 = .int .i64 i ∧ i + gf = n ∧ TurnP P gk g o z (1 + (c.size - (c.drop i).size)) ⟨k, t, c⟩ w wx)
      case atStart => exact ⟨0, rfl, by omega, by rw [F.drop_zero, Nat.sub_self]; exact unhide hT0⟩
      case round =>
        clear hTs
        obtain ⟨i, rfl, hig, hT⟩ := hrel
        have hTr := hT.slice hg x2
        by_cases hlt : i < n
        · have hlz : (i : Int) < n := by omega
          obtain ⟨c', hs', hsh, hce⟩ := hT.sl (unhide hcw) (unhide hs)
          obtain ⟨g1, o1, ea, ht1, hc1⟩ := hs'.2.2.2 (by omega)
          subst ea
          obtain ⟨k2, t2, c2, hd2⟩ := F.drop_cons (f := c') (i := i) (by rw [← hs'.1]; exact hlt)
          obtain ⟨ki, ti, ci, hdi⟩ := F.drop_cons (f := c) (i := i) (by rw [← hlen]; exact hlt)
          have hn2 := hc1.drop i
          rw [hd2] at hn2
          have hsz := (hsh.drop i)
          rw [hd2, hdi] at hsz
          have hsz2 := hsz.1.size
          have hst := drop_size_step hdi
          have hle := drop_size_le c i
          have hg1 := tag_ne hT.1 ht1
          have hH := unhide ih wr g1 (o1 + i * 3) k2 t2 c2 _ (z - (1 + (c.size - (c.drop i).size) : Nat)) (by omega) (by omega) (by omega) (by omega) ht1 hn2 hT.1
          have hstep := hide (fun w' hx => TurnP.step (w' := w') (s' := c2.size + 1) (k2 := k2) (t2 := t2) (c2 := c2) hT hg x2 hlt hdi (unhide hcw) hx (fun h => by
            have e := hce h
            rw [e, hdi] at hd2
            injection hd2 with e1 e2 e3
            rw [e1, e2, e3]) (by omega))
          have hnum : 1 + (c.size - (c.drop i).size) + (c2.size + 1) = 1 + (c.size - (c.drop (i + 1)).size) := by omega
          replace hnum := hide hnum
          replace hH := hide hH
          clear hs' hc1 hd2 hdi hn2 hsz hsz2 hst hle ht1 hT hce hsh
          obtain ⟨g', rfl⟩ : ∃ g', gk = g' + 1 := ⟨gk - 1, by omega⟩
          go_wp2_with fail
          refine (unhide hH).mono ?_
          rintro e W4 ⟨rfl, hT4⟩
          have hT5 := unhide hstep W4 hT4
          rw [unhide hnum] at hT5
          clear hH hT4 hstep hTr
          replace hT5 := hide hT5
          go_wp2
          go_roundg g'
          case measure => omega
          case rel => exact ⟨i + 1, by go_num, by omega, unhide hT5⟩
        · have hlz : ¬ (i : Int) < n := by omega
          have hde : (c.drop i).size = 0 := by rw [F.drop_end (by omega)]; rfl
          rw [hde] at hT
          have e1 : 1 + (c.size - 0) = c.size + 1 := by omega
          rw [e1] at hT
          replace hT := hide hT
          clear hde
          go_wp2
          exact ⟨rfl, _, results_none rfl _ _ _, rfl, (by first | exact unhide hT | (have h := unhide hT; simp only [hz0] at h; exact h))⟩
end Go.Proofs.YthnapcdanccohaaDoor

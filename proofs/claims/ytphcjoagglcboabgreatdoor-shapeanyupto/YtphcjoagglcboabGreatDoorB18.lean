/-
  4 texts in one.
-/
import Derived.Test.YtphcjoagglcboabGreatDoorB17
import Derived.Test.YtphcjoagglcboabGreatDoorB03
import Derived.Deep.LoopGhost
import Derived.Test.YtphcjoagglcboabGreatDoorB05
import Derived.Lib.QuietBelow
import Derived.BigQuiet
import Derived.WalkSmall
import Derived.Deep.DeepCutAuto
import Derived.Defers
import Derived.Recover
/-
  The parser: a file; its kids are sorted by a contract that is handed in.
-/
namespace Go.Proofs.YtphcjoagglcboabGreatDoor
open Go.RowKit Go.Lib Go.Sort
set_option linter.unusedSimpArgs false
set_option linter.unusedVariables false
/-- A file from the i-th token on. -/
def filG (L : List Tk) (f i : Nat) : PR Nd := wantA (keyA L i [112, 97, 99, 107, 97, 103, 101]) i ((leafA L 2 1 (i + 1)).bind fun n j => (endA L j).bind fun _ k => (impA L f (one n) k).bind fun l m => (dcsA L f l m).bind fun l' o =>
 wantA (decide (L.length ≤ o + 1)) (o + 1) (.ok ⟨1, 0, srtA .nil l'⟩ (o + 1)))
/-- Its kids, as they stand. -/
def filU (L : List Tk) (f i : Nat) : PR F := wantA (keyA L i [112, 97, 99, 107, 97, 103, 101]) i ((leafA L 2 1 (i + 1)).bind fun n j => (endA L j).bind fun _ k => (impA L f (one n) k).bind fun l m => (dcsA L f l m).bind fun l' o =>
 wantA (decide (L.length ≤ o + 1)) (o + 1) (.ok l' (o + 1)))
theorem filG_zero (L : List Tk) (f : Nat) : filG L f 0 = filA L f := rfl
theorem insA_len (k t : Int) (c : F) : ∀ l : F, (insA k t c l).len = l.len + 1
 | .nil => rfl
 | .cons k' t' c' r => by
  unfold insA
  split
  ·
   simp only [F.len]
  ·
   simp only [F.len, insA_len k t c r]
theorem srtA_len : ∀ (l' l : F), (srtA l l').len = l.len + l'.len
 | .nil, l => by simp [srtA, F.len]
 | .cons k t c r, l => by
  unfold srtA
  rw [srtA_len r, insA_len]
  simp only [F.len]
  omega
set_option maxHeartbeats 4000000 in
set_option maxRecDepth 100000 in
theorem paFile_any {g : Nat} {ta : Option Addr} {tc : Nat} {L : List Tk} {i : Nat} {w : World} (h : PaW g (.slice ta L.length tc) L i 0 w) {f : Nat} (hf : f ≤ 900000) (OK : F → Prop) (HS : ∀ (w : World) (B : Nat) (v : Value) (l : F), RowP (fun x => B ≤ x) w B v l → OK l → B ≤ w.heap.size → Calls Tryz.prog 71 #[v, .func (.func 72) #[] #[]] w fun e w' => e = .returned (.tuple #[]) ∧ RowP (fun x => B ≤ x) w' B v (srtA .nil l) ∧ Below B w w')
  (hfew : ∀ (l : F) (o : Nat), filU L f i = .ok l o → OK l) (hne : filG L f i ≠ .out) : Calls Tryz.prog 39 #[.pointer (some ⟨g, 0, none⟩)] w fun e w' => ResN w.heap.size g (.slice ta L.length tc) L 0 w (filG L f i) e w' := by
 obtain ⟨R0, hE0⟩ : ∃ R0, filG L f i = R0 := ⟨_, rfl⟩
 rw [hE0]
 unfold filG at hne hE0
 unfold filU at hfew
 cases h1 : keyA L i [112, 97, 99, 107, 97, 103, 101] with
 | false =>
  simp only [h1, wantA, Bool.false_eq_true, if_false] at hE0
  subst hE0
  clear hne hfew HS
  have hP := zH (h.alloc (.cells #[.int .i64 0, .int .i64 0, .slice none 0 0] 24 (0, 0))).1
  have hM := zH (h.alloc (.cells #[.int .i64 0, .int .i64 0, .slice none 0 0] 24 (0, 0))).2
  have hN := zH (nblk_new w 0 0 none 0 0)
  obtain ⟨gb, hgb⟩ : ∃ gb, w.heap.size = gb := ⟨_, rfl⟩
  have hz : (w.alloc (.cells #[.int .i64 0, .int .i64 0, .slice none 0 0] 24 (0, 0))).heap.size = gb + 1 := by simp [hgb]
  have hgl : g < gb := by have := h.lt; omega
  rw [hgb] at hN
  obtain ⟨W1, hq_W1⟩ : ∃ W1, w.alloc (.cells #[.int .i64 0, .int .i64 0, .slice none 0 0] 24 (0, 0)) = W1 := ⟨_, rfl⟩
  rw [hq_W1] at hP hM hN hz
  replace hz := And.intro (Nat.le_of_eq hz) (Nat.le_of_eq hz.symm)
  replace h := zH h
  go_enter Tryz.func39, Tryz.ntmps39
  go_wp2_with fail
  clear hq_W1
  refine (paKey_any _ _).mono ?_
  rintro e W2 ⟨rfl, hb⟩
  have h2 := (uH hP).below hb
  have hm := mop_below (g := g) hb
  clear hb
  replace hN := zH ((uH hN).mop (uH hP) hm)
  have hzz := hm.size
  replace hM := zH ((uH hM).trans hm)
  replace hP := zH h2
  clear hm h2
  go_wp2_with fail
  refine (paWant_no (uH hP) (keyT [112, 97, 99, 107, 97, 103, 101]) (by rw [eqB_key]; exact h1)).mono ?_
  rintro e W3 hBad
  obtain rfl := hBad.1
  have hG := zH (hBad.pre (uH hM))
  clear hBad
  go_wp2
  exact ⟨rfl, uH hG⟩
 | true =>
  simp only [h1, wantA, if_true] at hne hfew hE0
  cases h2 : knd L (i + 1) 1 with
  | false =>
   simp only [leafA, h2, PR.bind, Bool.false_eq_true, if_false] at hE0
   subst hE0
   clear hne hfew HS
   have hP := zH (h.alloc (.cells #[.int .i64 0, .int .i64 0, .slice none 0 0] 24 (0, 0))).1
   have hM := zH (h.alloc (.cells #[.int .i64 0, .int .i64 0, .slice none 0 0] 24 (0, 0))).2
   have hN := zH (nblk_new w 0 0 none 0 0)
   obtain ⟨gb, hgb⟩ : ∃ gb, w.heap.size = gb := ⟨_, rfl⟩
   have hz : (w.alloc (.cells #[.int .i64 0, .int .i64 0, .slice none 0 0] 24 (0, 0))).heap.size = gb + 1 := by simp [hgb]
   have hgl : g < gb := by have := h.lt; omega
   rw [hgb] at hN
   obtain ⟨W1, hq_W1⟩ : ∃ W1, w.alloc (.cells #[.int .i64 0, .int .i64 0, .slice none 0 0] 24 (0, 0)) = W1 := ⟨_, rfl⟩
   rw [hq_W1] at hP hM hN hz
   replace hz := And.intro (Nat.le_of_eq hz) (Nat.le_of_eq hz.symm)
   replace h := zH h
   go_enter Tryz.func39, Tryz.ntmps39
   go_wp2_with fail
   clear hq_W1
   refine (paKey_any _ _).mono ?_
   rintro e W2 ⟨rfl, hb⟩
   have h2 := (uH hP).below hb
   have hm := mop_below (g := g) hb
   clear hb
   replace hN := zH ((uH hN).mop (uH hP) hm)
   have hzz := hm.size
   replace hM := zH ((uH hM).trans hm)
   replace hP := zH h2
   clear hm h2
   go_wp2_with fail
   refine (paWant_yes (uH hP) (keyT [112, 97, 99, 107, 97, 103, 101]) (by rw [eqB_key]; exact h1) (keyA_lt h1)).mono ?_
   rintro e W3 ⟨rfl, h2, hm⟩
   replace hN := zH ((uH hN).mop (uH hP) hm)
   have hzz := hm.size
   replace hM := zH ((uH hM).trans hm)
   replace hP := zH h2
   clear hm h2
   go_wp2_with fail
   refine (paNamed_no (uH hP) 2 h2).mono ?_
   rintro e W4 hBad
   obtain rfl := hBad.1
   have hG := zH (hBad.pre (uH hM))
   clear hBad
   go_wp2
   exact ⟨rfl, uH hG⟩
  | true =>
   simp only [leafA, h2, PR.bind, if_true] at hne hfew hE0
   cases h3 : knd L (i + 1 + 1) 6 with
   | false =>
    simp only [endA, wantA, h3, Bool.false_eq_true, if_false] at hE0
    subst hE0
    clear hne hfew HS
    have hP := zH (h.alloc (.cells #[.int .i64 0, .int .i64 0, .slice none 0 0] 24 (0, 0))).1
    have hM := zH (h.alloc (.cells #[.int .i64 0, .int .i64 0, .slice none 0 0] 24 (0, 0))).2
    have hN := zH (nblk_new w 0 0 none 0 0)
    obtain ⟨gb, hgb⟩ : ∃ gb, w.heap.size = gb := ⟨_, rfl⟩
    have hz : (w.alloc (.cells #[.int .i64 0, .int .i64 0, .slice none 0 0] 24 (0, 0))).heap.size = gb + 1 := by simp [hgb]
    have hgl : g < gb := by have := h.lt; omega
    rw [hgb] at hN
    obtain ⟨W1, hq_W1⟩ : ∃ W1, w.alloc (.cells #[.int .i64 0, .int .i64 0, .slice none 0 0] 24 (0, 0)) = W1 := ⟨_, rfl⟩
    rw [hq_W1] at hP hM hN hz
    replace hz := And.intro (Nat.le_of_eq hz) (Nat.le_of_eq hz.symm)
    replace h := zH h
    go_enter Tryz.func39, Tryz.ntmps39
    go_wp2_with fail
    clear hq_W1
    refine (paKey_any _ _).mono ?_
    rintro e W2 ⟨rfl, hb⟩
    have h2 := (uH hP).below hb
    have hm := mop_below (g := g) hb
    clear hb
    replace hN := zH ((uH hN).mop (uH hP) hm)
    have hzz := hm.size
    replace hM := zH ((uH hM).trans hm)
    replace hP := zH h2
    clear hm h2
    go_wp2_with fail
    refine (paWant_yes (uH hP) (keyT [112, 97, 99, 107, 97, 103, 101]) (by rw [eqB_key]; exact h1) (keyA_lt h1)).mono ?_
    rintro e W3 ⟨rfl, h2, hm⟩
    replace hN := zH ((uH hN).mop (uH hP) hm)
    have hzz := hm.size
    replace hM := zH ((uH hM).trans hm)
    replace hP := zH h2
    clear hm h2
    go_wp2_with fail
    have hNl := (uH hN).lt
    refine (paNamed_yes (uH hP) 2 h2).mono ?_
    rintro e W9 ⟨a2, m2, c2, rfl, hs, h2', hm⟩
    dsimp only at hs
    have hzs := hm.size
    have hN9 := (uH hN).mop (uH hP) hm
    have hM9 := (uH hM).trans hm
    have hsB : SlQ (fun x => gb + 1 ≤ x) W9 a2 m2 c2 .nil := hs.mono (fun x hx => by have e1 := hx.1; omega)
    have hR0 := zH (rowP_one (B := gb + 1) (k := 2) (t := ((i : Int) + 1)) (by omega) hsB)
    have hP2 := zH (h2'.below (below_alloc W9 (.cells #[.int .i64 2, .int .i64 ((i : Int) + 1), .slice a2 m2 c2] 24 (0, 0))))
    have hm2 := mop_below (g := g) (below_alloc W9 (.cells #[.int .i64 2, .int .i64 ((i : Int) + 1), .slice a2 m2 c2] 24 (0, 0)))
    have hM2 := zH (hM9.trans hm2)
    have hN2 := zH (hN9.mop h2' hm2)
    have hzA : (W9.alloc (.cells #[.int .i64 2, .int .i64 ((i : Int) + 1), .slice a2 m2 c2] 24 (0, 0))).heap.size = W9.heap.size + 1 := by simp
    clear hm h2' hs hsB hM hP hN hN9 hM9 hm2
    obtain ⟨gl, hgl⟩ : ∃ x, W9.heap.size = x := ⟨_, rfl⟩
    obtain ⟨WA, hq_WA⟩ : ∃ x, W9.alloc (.cells #[.int .i64 2, .int .i64 ((i : Int) + 1), .slice a2 m2 c2] 24 (0, 0)) = x := ⟨_, rfl⟩
    rw [hq_WA] at hR0 hP2 hM2 hN2 hzA
    rw [hgl] at hR0
    replace hzA := And.intro (Nat.le_of_eq hzA) (Nat.le_of_eq hzA.symm)
    go_wp2_with fail
    clear hq_WA
    have hR := hR0
    have hP := hP2
    have hM := hM2
    have hN := hN2
    clear hR0 hP2 hM2 hN2
    refine (paEnd_no (uH hP) h3).mono ?_
    rintro e W40 hBad
    obtain rfl := hBad.1
    have hG := zH (hBad.pre (uH hM))
    clear hBad
    go_wp2
    exact ⟨rfl, uH hG⟩
   | true =>
    simp only [endA, wantA, h3, if_true, one] at hne hfew hE0
    obtain ⟨R1, hR1⟩ : ∃ R1, impA L f (.cons 2 (i + 1 : Nat) .nil .nil) (skN L (i + 1 + 1 + 1)) = R1 := ⟨_, rfl⟩
    rw [hR1] at hne hfew hE0
    replace hE0 := zH hE0
    have hP := zH (h.alloc (.cells #[.int .i64 0, .int .i64 0, .slice none 0 0] 24 (0, 0))).1
    have hM := zH (h.alloc (.cells #[.int .i64 0, .int .i64 0, .slice none 0 0] 24 (0, 0))).2
    have hN := zH (nblk_new w 0 0 none 0 0)
    obtain ⟨gb, hgb⟩ : ∃ gb, w.heap.size = gb := ⟨_, rfl⟩
    have hz : (w.alloc (.cells #[.int .i64 0, .int .i64 0, .slice none 0 0] 24 (0, 0))).heap.size = gb + 1 := by simp [hgb]
    have hgl : g < gb := by have := h.lt; omega
    rw [hgb] at hN
    obtain ⟨W1, hq_W1⟩ : ∃ W1, w.alloc (.cells #[.int .i64 0, .int .i64 0, .slice none 0 0] 24 (0, 0)) = W1 := ⟨_, rfl⟩
    rw [hq_W1] at hP hM hN hz
    replace hz := And.intro (Nat.le_of_eq hz) (Nat.le_of_eq hz.symm)
    replace h := zH h
    go_enter Tryz.func39, Tryz.ntmps39
    go_wp2_with fail
    clear hq_W1
    refine (paKey_any _ _).mono ?_
    rintro e W2 ⟨rfl, hb⟩
    have h2 := (uH hP).below hb
    have hm := mop_below (g := g) hb
    clear hb
    replace hN := zH ((uH hN).mop (uH hP) hm)
    have hzz := hm.size
    replace hM := zH ((uH hM).trans hm)
    replace hP := zH h2
    clear hm h2
    go_wp2_with fail
    refine (paWant_yes (uH hP) (keyT [112, 97, 99, 107, 97, 103, 101]) (by rw [eqB_key]; exact h1) (keyA_lt h1)).mono ?_
    rintro e W3 ⟨rfl, h2, hm⟩
    replace hN := zH ((uH hN).mop (uH hP) hm)
    have hzz := hm.size
    replace hM := zH ((uH hM).trans hm)
    replace hP := zH h2
    clear hm h2
    go_wp2_with fail
    have hNl := (uH hN).lt
    refine (paNamed_yes (uH hP) 2 h2).mono ?_
    rintro e W9 ⟨a2, m2, c2, rfl, hs, h2', hm⟩
    dsimp only at hs
    have hzs := hm.size
    have hN9 := (uH hN).mop (uH hP) hm
    have hM9 := (uH hM).trans hm
    have hsB : SlQ (fun x => gb + 1 ≤ x) W9 a2 m2 c2 .nil := hs.mono (fun x hx => by have e1 := hx.1; omega)
    have hR0 := zH (rowP_one (B := gb + 1) (k := 2) (t := ((i : Int) + 1)) (by omega) hsB)
    have hP2 := zH (h2'.below (below_alloc W9 (.cells #[.int .i64 2, .int .i64 ((i : Int) + 1), .slice a2 m2 c2] 24 (0, 0))))
    have hm2 := mop_below (g := g) (below_alloc W9 (.cells #[.int .i64 2, .int .i64 ((i : Int) + 1), .slice a2 m2 c2] 24 (0, 0)))
    have hM2 := zH (hM9.trans hm2)
    have hN2 := zH (hN9.mop h2' hm2)
    have hzA : (W9.alloc (.cells #[.int .i64 2, .int .i64 ((i : Int) + 1), .slice a2 m2 c2] 24 (0, 0))).heap.size = W9.heap.size + 1 := by simp
    clear hm h2' hs hsB hM hP hN hN9 hM9 hm2
    obtain ⟨gl, hgl⟩ : ∃ x, W9.heap.size = x := ⟨_, rfl⟩
    obtain ⟨WA, hq_WA⟩ : ∃ x, W9.alloc (.cells #[.int .i64 2, .int .i64 ((i : Int) + 1), .slice a2 m2 c2] 24 (0, 0)) = x := ⟨_, rfl⟩
    rw [hq_WA] at hR0 hP2 hM2 hN2 hzA
    rw [hgl] at hR0
    replace hzA := And.intro (Nat.le_of_eq hzA) (Nat.le_of_eq hzA.symm)
    go_wp2_with fail
    clear hq_WA
    have hR := hR0
    have hP := hP2
    have hM := hM2
    have hN := hN2
    clear hR0 hP2 hM2 hN2
    refine (paEnd_yes (uH hP) h3).mono ?_
    rintro e W40 ⟨rfl, h2, hm⟩
    replace hN := zH ((uH hN).mop (uH hP) hm)
    replace hR := zH ((uH hR).mop (uH hP) hm)
    have hzz := hm.size
    replace hM := zH ((uH hM).trans hm)
    replace hP := zH h2
    clear hm h2
    go_upto_region 4 with fail
    go_loopg [3] f (fun gf s3 wx => ∃ (v3 : Value) (l : F) (j : Nat), v3 = s3 ∧ RowP (fun x => gb + 1 ≤ x) wx (gb + 1) s3 l ∧ PaW g (.slice ta L.length tc) L j 0 wx ∧ MoP g w wx ∧ NBlk wx gb 0 0 none 0 0 ∧ impA L gf l j = R1 ∧ l.len + gf ≤ f + 1 ∧ gf ≤ f)
    case atStart => exact ⟨_, _, _, rfl, uH hR, uH hP, uH hM, uH hN, hR1, by simp only [F.len]; omega, Nat.le_refl _⟩
    case round =>
     obtain ⟨v3, l, j, rfl, hRw, hP, hM, hN, hE, hlf, hgf⟩ := hrel
     cases gk with
     | zero =>
      unfold impA at hE
      rw [← hE] at hne
      exact absurd rfl hne
     | succ g' =>
      unfold impA at hE
      clear hR hR1
      replace hRw := zH hRw
      have hNl := hN.lt
      replace hP := zH hP
      replace hM := zH hM
      replace hN := zH hN
      cases ho : keyA L j [105, 109, 112, 111, 114, 116] with
      | true =>
       simp only [ho, if_true] at hE
       cases hk : knd L (j + 1) 1 with
       | false =>
        simp only [leafA, hk, PR.bind, Bool.false_eq_true, if_false] at hE
        subst hE
        have e0 := uH hE0
        clear hE0 hne hfew
        dsimp only at e0
        subst e0
        go_wp2_with fail
        refine (paKey_any _ _).mono ?_
        rintro e W20 ⟨rfl, hb⟩
        have h2 := (uH hP).below hb
        have hm := mop_below (g := g) hb
        clear hb
        replace hN := zH ((uH hN).mop (uH hP) hm)
        replace hRw := zH ((uH hRw).mop (uH hP) hm)
        have hzz := hm.size
        replace hM := zH ((uH hM).trans hm)
        replace hP := zH h2
        clear hm h2
        go_wp2_with fail
        refine (paTake_yes (uH hP) (keyT [105, 109, 112, 111, 114, 116]) (by rw [eqB_key]; exact ho) (keyA_lt ho)).mono ?_
        rintro e W21 ⟨rfl, h2, hm⟩
        replace hN := zH ((uH hN).mop (uH hP) hm)
        replace hRw := zH ((uH hRw).mop (uH hP) hm)
        have hzz := hm.size
        replace hM := zH ((uH hM).trans hm)
        replace hP := zH h2
        clear hm h2
        go_wp2_with fail
        refine (paNamed_no (uH hP) 3 hk).mono ?_
        rintro e W22 hBad
        obtain rfl := hBad.1
        have hG := zH (hBad.pre (uH hM))
        clear hBad
        go_wp2
        exact ⟨rfl, uH hG⟩
       | true =>
        simp only [leafA, hk, PR.bind, if_true, snoc, one] at hE
        cases hk6 : knd L (j + 1 + 1) 6 with
        | false =>
         simp only [endA, wantA, hk6, Bool.false_eq_true, if_false] at hE
         subst hE
         have e0 := uH hE0
         clear hE0 hne hfew
         dsimp only at e0
         subst e0
         go_wp2_with fail
         refine (paKey_any _ _).mono ?_
         rintro e W20 ⟨rfl, hb⟩
         have h2 := (uH hP).below hb
         have hm := mop_below (g := g) hb
         clear hb
         replace hN := zH ((uH hN).mop (uH hP) hm)
         replace hRw := zH ((uH hRw).mop (uH hP) hm)
         have hzz := hm.size
         replace hM := zH ((uH hM).trans hm)
         replace hP := zH h2
         clear hm h2
         go_wp2_with fail
         refine (paTake_yes (uH hP) (keyT [105, 109, 112, 111, 114, 116]) (by rw [eqB_key]; exact ho) (keyA_lt ho)).mono ?_
         rintro e W21 ⟨rfl, h2, hm⟩
         replace hN := zH ((uH hN).mop (uH hP) hm)
         replace hRw := zH ((uH hRw).mop (uH hP) hm)
         have hzz := hm.size
         replace hM := zH ((uH hM).trans hm)
         replace hP := zH h2
         clear hm h2
         go_wp2_with fail
         refine (paNamed_yes (uH hP) 3 hk).mono ?_
         rintro e W30 ⟨a2, m2, c2, rfl, hs, h2, hm⟩
         dsimp only at hs
         have hRl := (uH hRw).lt
         have hRw2 := (uH hRw).mop (uH hP) hm
         have hN2 := (uH hN).mop (uH hP) hm
         have hgs := (uH hM).size
         replace hM := (uH hM).trans hm
         have hzs := hm.size
         have hL2 : SlQ (fun x => gb + 1 ≤ x ∧ v3.ownBlock ≠ some x ∧ x < (W30.alloc (.cells #[.int .i64 3, .int .i64 ((j : Int) + 1), .slice a2 m2 c2] 24 (0, 0))).heap.size) (W30.alloc (.cells #[.int .i64 3, .int .i64 ((j : Int) + 1), .slice a2 m2 c2] 24 (0, 0))) (some ⟨W30.heap.size, 0, none⟩) 1 1 (.cons 3 ((j : Int) + 1) .nil .nil) :=
          (lit1_sl (P := fun x => gb + 1 ≤ x ∧ v3.ownBlock ≠ some x) W30 3 ((j : Int) + 1) a2 m2 c2 .nil (hs.mono (fun x hx => ⟨by have e1 := hx.1; omega, fun e => by have := hRl x e; have e1 := hx.1; omega⟩)) ⟨by omega, fun e => by have := hRl _ e; omega⟩).mono (fun x hx => ⟨hx.1.1, hx.1.2, hx.lt⟩)
         have hRw3 : RowP (fun x => gb + 1 ≤ x) (W30.alloc (.cells #[.int .i64 3, .int .i64 ((j : Int) + 1), .slice a2 m2 c2] 24 (0, 0))) (gb + 1) v3 l := hRw2.keep (below_alloc W30 (.cells #[.int .i64 3, .int .i64 ((j : Int) + 1), .slice a2 m2 c2] 24 (0, 0))).size (fun x cur hx => (below_alloc W30 (.cells #[.int .i64 3, .int .i64 ((j : Int) + 1), .slice a2 m2 c2] 24 (0, 0))).block x (Array.getElem?_eq_some_iff.1 hx).1)
         have hmA := mop_below (g := g) (below_alloc W30 (.cells #[.int .i64 3, .int .i64 ((j : Int) + 1), .slice a2 m2 c2] 24 (0, 0)))
         have hP3 := zH (h2.below (below_alloc W30 (.cells #[.int .i64 3, .int .i64 ((j : Int) + 1), .slice a2 m2 c2] 24 (0, 0))))
         have hM3 := zH (hM.trans hmA)
         have hN3 := hN2.mop h2 hmA
         have hz32 : gb + 1 ≤ (W30.alloc (.cells #[.int .i64 3, .int .i64 ((j : Int) + 1), .slice a2 m2 c2] 24 (0, 0))).heap.size := by simp; omega
         clear hs h2 hm hM hRw hRw2 hP hN hN2 hmA
         obtain ⟨gl2, hgl2⟩ : ∃ x, W30.heap.size = x := ⟨_, rfl⟩
         obtain ⟨WA, hq_WA⟩ : ∃ x, W30.alloc (.cells #[.int .i64 3, .int .i64 ((j : Int) + 1), .slice a2 m2 c2] 24 (0, 0)) = x := ⟨_, rfl⟩
         rw [hq_WA] at hL2 hRw3 hP3 hM3 hN3 hz32
         rw [hgl2] at hL2
         replace hL2 := zH hL2
         replace hRw3 := zH hRw3
         replace hN3 := zH hN3
         go_wp2_with (at_builtin; refine wpList_append_rowP rfl (.tmp 15) (.tmp 18) rfl rfl (uH hRw3) rfl (uH hL2) (by omega) hz32 ?_)
         intro v4 W40 hR4 hb4 hg4 hl4
         have hzg := hb4.size
         have hbm := hb4.mono (show w.heap.size ≤ gb + 1 by omega)
         have hP := zH ((uH hP3).belowB (uH h) hbm)
         have hM := zH (mop_belowB (uH h) hbm (by omega) (uH hM3))
         have hN := zH ((uH hN3).same (hb4.block _ (by omega)))
         have hRw := zH hR4
         clear hb4 hg4 hl4 hL2 hRw3 hP3 hM3 hN3 hq_WA hgl2 hR4 hbm
         go_wp2_with fail
         refine (paEnd_no (uH hP) hk6).mono ?_
         rintro e W41 hBad
         obtain rfl := hBad.1
         have hG := zH (hBad.pre (uH hM))
         clear hBad
         go_wp2
         exact ⟨rfl, uH hG⟩
        | true =>
         simp only [endA, wantA, hk6, if_true] at hE
         go_wp2_with fail
         refine (paKey_any _ _).mono ?_
         rintro e W20 ⟨rfl, hb⟩
         have h2 := (uH hP).below hb
         have hm := mop_below (g := g) hb
         clear hb
         replace hN := zH ((uH hN).mop (uH hP) hm)
         replace hRw := zH ((uH hRw).mop (uH hP) hm)
         have hzz := hm.size
         replace hM := zH ((uH hM).trans hm)
         replace hP := zH h2
         clear hm h2
         go_wp2_with fail
         refine (paTake_yes (uH hP) (keyT [105, 109, 112, 111, 114, 116]) (by rw [eqB_key]; exact ho) (keyA_lt ho)).mono ?_
         rintro e W21 ⟨rfl, h2, hm⟩
         replace hN := zH ((uH hN).mop (uH hP) hm)
         replace hRw := zH ((uH hRw).mop (uH hP) hm)
         have hzz := hm.size
         replace hM := zH ((uH hM).trans hm)
         replace hP := zH h2
         clear hm h2
         go_wp2_with fail
         refine (paNamed_yes (uH hP) 3 hk).mono ?_
         rintro e W30 ⟨a2, m2, c2, rfl, hs, h2, hm⟩
         dsimp only at hs
         have hRl := (uH hRw).lt
         have hRw2 := (uH hRw).mop (uH hP) hm
         have hN2 := (uH hN).mop (uH hP) hm
         have hgs := (uH hM).size
         replace hM := (uH hM).trans hm
         have hzs := hm.size
         have hL2 : SlQ (fun x => gb + 1 ≤ x ∧ v3.ownBlock ≠ some x ∧ x < (W30.alloc (.cells #[.int .i64 3, .int .i64 ((j : Int) + 1), .slice a2 m2 c2] 24 (0, 0))).heap.size) (W30.alloc (.cells #[.int .i64 3, .int .i64 ((j : Int) + 1), .slice a2 m2 c2] 24 (0, 0))) (some ⟨W30.heap.size, 0, none⟩) 1 1 (.cons 3 ((j : Int) + 1) .nil .nil) :=
          (lit1_sl (P := fun x => gb + 1 ≤ x ∧ v3.ownBlock ≠ some x) W30 3 ((j : Int) + 1) a2 m2 c2 .nil (hs.mono (fun x hx => ⟨by have e1 := hx.1; omega, fun e => by have := hRl x e; have e1 := hx.1; omega⟩)) ⟨by omega, fun e => by have := hRl _ e; omega⟩).mono (fun x hx => ⟨hx.1.1, hx.1.2, hx.lt⟩)
         have hRw3 : RowP (fun x => gb + 1 ≤ x) (W30.alloc (.cells #[.int .i64 3, .int .i64 ((j : Int) + 1), .slice a2 m2 c2] 24 (0, 0))) (gb + 1) v3 l := hRw2.keep (below_alloc W30 (.cells #[.int .i64 3, .int .i64 ((j : Int) + 1), .slice a2 m2 c2] 24 (0, 0))).size (fun x cur hx => (below_alloc W30 (.cells #[.int .i64 3, .int .i64 ((j : Int) + 1), .slice a2 m2 c2] 24 (0, 0))).block x (Array.getElem?_eq_some_iff.1 hx).1)
         have hmA := mop_below (g := g) (below_alloc W30 (.cells #[.int .i64 3, .int .i64 ((j : Int) + 1), .slice a2 m2 c2] 24 (0, 0)))
         have hP3 := zH (h2.below (below_alloc W30 (.cells #[.int .i64 3, .int .i64 ((j : Int) + 1), .slice a2 m2 c2] 24 (0, 0))))
         have hM3 := zH (hM.trans hmA)
         have hN3 := hN2.mop h2 hmA
         have hz32 : gb + 1 ≤ (W30.alloc (.cells #[.int .i64 3, .int .i64 ((j : Int) + 1), .slice a2 m2 c2] 24 (0, 0))).heap.size := by simp; omega
         clear hs h2 hm hM hRw hRw2 hP hN hN2 hmA
         obtain ⟨gl2, hgl2⟩ : ∃ x, W30.heap.size = x := ⟨_, rfl⟩
         obtain ⟨WA, hq_WA⟩ : ∃ x, W30.alloc (.cells #[.int .i64 3, .int .i64 ((j : Int) + 1), .slice a2 m2 c2] 24 (0, 0)) = x := ⟨_, rfl⟩
         rw [hq_WA] at hL2 hRw3 hP3 hM3 hN3 hz32
         rw [hgl2] at hL2
         replace hL2 := zH hL2
         replace hRw3 := zH hRw3
         replace hN3 := zH hN3
         have hE' := zH hE
         go_wp2_with (at_builtin; refine wpList_append_rowP rfl (.tmp 15) (.tmp 18) rfl rfl (uH hRw3) rfl (uH hL2) (by omega) hz32 ?_)
         intro v4 W40 hR4 hb4 hg4 hl4
         have hzg := hb4.size
         have hbm := hb4.mono (show w.heap.size ≤ gb + 1 by omega)
         have hP := zH ((uH hP3).belowB (uH h) hbm)
         have hM := zH (mop_belowB (uH h) hbm (by omega) (uH hM3))
         have hN := zH ((uH hN3).same (hb4.block _ (by omega)))
         have hRw := zH hR4
         clear hb4 hg4 hl4 hL2 hRw3 hP3 hM3 hN3 hq_WA hgl2 hR4 hbm
         go_wp2_with fail
         refine (paEnd_yes (uH hP) hk6).mono ?_
         rintro e W41 ⟨rfl, h2, hm⟩
         replace hN := zH ((uH hN).mop (uH hP) hm)
         replace hRw := zH ((uH hRw).mop (uH hP) hm)
         have hzz := hm.size
         replace hM := zH ((uH hM).trans hm)
         replace hP := zH h2
         clear hm h2
         have hX := zH (And.intro (uH hRw) (And.intro (uH hP) (And.intro (uH hM) (uH hN))))
         clear hE
         go_wp2
         go_roundg g'
         case measure => omega
         case rel => exact ⟨_, _, _, rfl, (uH hX).1, (uH hX).2.1, (uH hX).2.2.1, (uH hX).2.2.2, uH hE', by rw [F.len_app]; simp only [F.len]; omega, by omega⟩
      | false =>
       simp only [ho, Bool.false_eq_true, if_false] at hE
       subst hE
       simp only [PR.bind] at hne hfew
       obtain ⟨R2, hR2⟩ : ∃ R2, dcsA L f l j = R2 := ⟨_, rfl⟩
       go_wp2_with fail
       refine (paKey_any _ _).mono ?_
       rintro e W20 ⟨rfl, hb⟩
       have h2 := (uH hP).below hb
       have hm := mop_below (g := g) hb
       clear hb
       replace hN := zH ((uH hN).mop (uH hP) hm)
       replace hRw := zH ((uH hRw).mop (uH hP) hm)
       have hzz := hm.size
       replace hM := zH ((uH hM).trans hm)
       replace hP := zH h2
       clear hm h2
       go_wp2_with fail
       refine (paTake_no (uH hP) (keyT [105, 109, 112, 111, 114, 116]) (by rw [eqB_key]; exact ho)).mono ?_
       rintro e W21 ⟨rfl, h2, hm⟩
       replace hN := zH ((uH hN).mop (uH hP) hm)
       replace hRw := zH ((uH hRw).mop (uH hP) hm)
       have hzz := hm.size
       replace hM := zH ((uH hM).trans hm)
       replace hP := zH h2
       clear hm h2
       go_upto_region 7 with fail
       rw [hR2] at hne hfew
       have e1 := uH hE0
       rw [hR2] at e1
       replace hE0 := zH e1
       clear e1
       replace hR2 := zH hR2
       go_loopg [3] f (fun gf s3 wx => ∃ (v3 : Value) (l : F) (j : Nat), v3 = s3 ∧ RowP (fun x => gb + 1 ≤ x) wx (gb + 1) s3 l ∧ PaW g (.slice ta L.length tc) L j 0 wx ∧ MoP g w wx ∧ NBlk wx gb 0 0 none 0 0 ∧ dcsA L gf l j = R2 ∧ l.len + gf ≤ f + f + 1 ∧ gf ≤ f)
       case atStart => exact ⟨_, _, _, rfl, uH hRw, uH hP, uH hM, uH hN, uH hR2, by omega, Nat.le_refl _⟩
       case round =>
        clear hRw hP hM hN hNl
        obtain ⟨v3, l, j, rfl, hRw, hP, hM, hN, hE, hlf, hgf⟩ := hrel
        cases gk with
        | zero =>
         unfold dcsA at hE
         rw [← hE] at hne
         exact absurd rfl hne
        | succ g' =>
         unfold dcsA at hE
         replace hRw := zH hRw
         have hNl := hN.lt
         replace hP := zH hP
         replace hM := zH hM
         replace hN := zH hN
         cases ho : knd L j 7 with
         | false =>
          simp only [ho, Bool.false_eq_true, if_false] at hE
          have hne1 : decA L g' j ≠ .out := fun e => hne (by rw [← hE, e]; rfl)
          have hH := zH (fun w h => paDecl_any (g := g) (tv := .slice ta L.length tc) (L := L) (w := w) (i := j) h (f := g') (by omega) hne1)
          cases hr : decA L g' j with
          | out => exact absurd hr hne1
          | bad j2 =>
           rw [hr] at hE hH
           simp only [PR.bind] at hE
           subst hE
           have e0 := uH hE0
           clear hE0 hne hfew
           dsimp only at e0
           subst e0
           go_wp2_with fail
           have hK := paIsKind_any (uH hP) 7
           rw [ho] at hK
           refine (hK).mono ?_
           rintro e W20 ⟨rfl, hb⟩
           have h2 := (uH hP).below hb
           have hm := mop_below (g := g) hb
           clear hb
           replace hN := zH ((uH hN).mop (uH hP) hm)
           replace hRw := zH ((uH hRw).mop (uH hP) hm)
           have hzz := hm.size
           replace hM := zH ((uH hM).trans hm)
           replace hP := zH h2
           clear hm h2
           go_wp2_with fail
           refine (uH hH _ (uH hP)).mono ?_
           rintro e W21 hBad
           obtain rfl := hBad.1
           have hG := zH (hBad.pre (uH hM))
           clear hBad
           go_wp2
           exact ⟨rfl, uH hG⟩
          | ok n j2 =>
           obtain ⟨nk, nt, nc⟩ := n
           rw [hr] at hE hH
           simp only [PR.bind, snoc, one] at hE
           cases hk6 : knd L j2 6 with
           | false =>
            simp only [endA, wantA, hk6, Bool.false_eq_true, if_false] at hE
            subst hE
            have e0 := uH hE0
            clear hE0 hne hfew
            dsimp only at e0
            subst e0
            go_wp2_with fail
            have hK := paIsKind_any (uH hP) 7
            rw [ho] at hK
            refine (hK).mono ?_
            rintro e W20 ⟨rfl, hb⟩
            have h2 := (uH hP).below hb
            have hm := mop_below (g := g) hb
            clear hb
            replace hN := zH ((uH hN).mop (uH hP) hm)
            replace hRw := zH ((uH hRw).mop (uH hP) hm)
            have hzz := hm.size
            replace hM := zH ((uH hM).trans hm)
            replace hP := zH h2
            clear hm h2
            go_wp2_with fail
            refine (uH hH _ (uH hP)).mono ?_
            rintro e W30 ⟨a2, m2, c2, rfl, hs, h2, hm⟩
            dsimp only at hs
            have hRl := (uH hRw).lt
            have hRw2 := (uH hRw).mop (uH hP) hm
            have hN2 := (uH hN).mop (uH hP) hm
            have hgs := (uH hM).size
            replace hM := (uH hM).trans hm
            have hzs := hm.size
            have hL2 : SlQ (fun x => gb + 1 ≤ x ∧ v3.ownBlock ≠ some x ∧ x < (W30.alloc (.cells #[.int .i64 nk, .int .i64 nt, .slice a2 m2 c2] 24 (0, 0))).heap.size) (W30.alloc (.cells #[.int .i64 nk, .int .i64 nt, .slice a2 m2 c2] 24 (0, 0))) (some ⟨W30.heap.size, 0, none⟩) 1 1 (.cons nk nt nc .nil) :=
             (lit1_sl (P := fun x => gb + 1 ≤ x ∧ v3.ownBlock ≠ some x) W30 nk nt a2 m2 c2 nc (hs.mono (fun x hx => ⟨by have e1 := hx.1; omega, fun e => by have := hRl x e; have e1 := hx.1; omega⟩)) ⟨by omega, fun e => by have := hRl _ e; omega⟩).mono (fun x hx => ⟨hx.1.1, hx.1.2, hx.lt⟩)
            have hRw3 : RowP (fun x => gb + 1 ≤ x) (W30.alloc (.cells #[.int .i64 nk, .int .i64 nt, .slice a2 m2 c2] 24 (0, 0))) (gb + 1) v3 l := hRw2.keep (below_alloc W30 (.cells #[.int .i64 nk, .int .i64 nt, .slice a2 m2 c2] 24 (0, 0))).size (fun x cur hx => (below_alloc W30 (.cells #[.int .i64 nk, .int .i64 nt, .slice a2 m2 c2] 24 (0, 0))).block x (Array.getElem?_eq_some_iff.1 hx).1)
            have hmA := mop_below (g := g) (below_alloc W30 (.cells #[.int .i64 nk, .int .i64 nt, .slice a2 m2 c2] 24 (0, 0)))
            have hP3 := zH (h2.below (below_alloc W30 (.cells #[.int .i64 nk, .int .i64 nt, .slice a2 m2 c2] 24 (0, 0))))
            have hM3 := zH (hM.trans hmA)
            have hN3 := hN2.mop h2 hmA
            have hz32 : gb + 1 ≤ (W30.alloc (.cells #[.int .i64 nk, .int .i64 nt, .slice a2 m2 c2] 24 (0, 0))).heap.size := by simp; omega
            clear hs h2 hm hM hRw hRw2 hP hN hN2 hmA
            obtain ⟨gl2, hgl2⟩ : ∃ x, W30.heap.size = x := ⟨_, rfl⟩
            obtain ⟨WA, hq_WA⟩ : ∃ x, W30.alloc (.cells #[.int .i64 nk, .int .i64 nt, .slice a2 m2 c2] 24 (0, 0)) = x := ⟨_, rfl⟩
            rw [hq_WA] at hL2 hRw3 hP3 hM3 hN3 hz32
            rw [hgl2] at hL2
            replace hL2 := zH hL2
            replace hRw3 := zH hRw3
            replace hN3 := zH hN3
            go_wp2_with (at_builtin; refine wpList_append_rowP rfl (.tmp 25) (.tmp 28) rfl rfl (uH hRw3) rfl (uH hL2) (by omega) hz32 ?_)
            intro v4 W40 hR4 hb4 hg4 hl4
            have hzg := hb4.size
            have hbm := hb4.mono (show w.heap.size ≤ gb + 1 by omega)
            have hP := zH ((uH hP3).belowB (uH h) hbm)
            have hM := zH (mop_belowB (uH h) hbm (by omega) (uH hM3))
            have hN := zH ((uH hN3).same (hb4.block _ (by omega)))
            have hRw := zH hR4
            clear hb4 hg4 hl4 hL2 hRw3 hP3 hM3 hN3 hq_WA hgl2 hR4 hbm
            go_wp2_with fail
            refine (paEnd_no (uH hP) hk6).mono ?_
            rintro e W41 hBad
            obtain rfl := hBad.1
            have hG := zH (hBad.pre (uH hM))
            clear hBad
            go_wp2
            exact ⟨rfl, uH hG⟩
           | true =>
            simp only [endA, wantA, hk6, if_true] at hE
            go_wp2_with fail
            have hK := paIsKind_any (uH hP) 7
            rw [ho] at hK
            refine (hK).mono ?_
            rintro e W20 ⟨rfl, hb⟩
            have h2 := (uH hP).below hb
            have hm := mop_below (g := g) hb
            clear hb
            replace hN := zH ((uH hN).mop (uH hP) hm)
            replace hRw := zH ((uH hRw).mop (uH hP) hm)
            have hzz := hm.size
            replace hM := zH ((uH hM).trans hm)
            replace hP := zH h2
            clear hm h2
            go_wp2_with fail
            refine (uH hH _ (uH hP)).mono ?_
            rintro e W30 ⟨a2, m2, c2, rfl, hs, h2, hm⟩
            dsimp only at hs
            have hRl := (uH hRw).lt
            have hRw2 := (uH hRw).mop (uH hP) hm
            have hN2 := (uH hN).mop (uH hP) hm
            have hgs := (uH hM).size
            replace hM := (uH hM).trans hm
            have hzs := hm.size
            have hL2 : SlQ (fun x => gb + 1 ≤ x ∧ v3.ownBlock ≠ some x ∧ x < (W30.alloc (.cells #[.int .i64 nk, .int .i64 nt, .slice a2 m2 c2] 24 (0, 0))).heap.size) (W30.alloc (.cells #[.int .i64 nk, .int .i64 nt, .slice a2 m2 c2] 24 (0, 0))) (some ⟨W30.heap.size, 0, none⟩) 1 1 (.cons nk nt nc .nil) :=
             (lit1_sl (P := fun x => gb + 1 ≤ x ∧ v3.ownBlock ≠ some x) W30 nk nt a2 m2 c2 nc (hs.mono (fun x hx => ⟨by have e1 := hx.1; omega, fun e => by have := hRl x e; have e1 := hx.1; omega⟩)) ⟨by omega, fun e => by have := hRl _ e; omega⟩).mono (fun x hx => ⟨hx.1.1, hx.1.2, hx.lt⟩)
            have hRw3 : RowP (fun x => gb + 1 ≤ x) (W30.alloc (.cells #[.int .i64 nk, .int .i64 nt, .slice a2 m2 c2] 24 (0, 0))) (gb + 1) v3 l := hRw2.keep (below_alloc W30 (.cells #[.int .i64 nk, .int .i64 nt, .slice a2 m2 c2] 24 (0, 0))).size (fun x cur hx => (below_alloc W30 (.cells #[.int .i64 nk, .int .i64 nt, .slice a2 m2 c2] 24 (0, 0))).block x (Array.getElem?_eq_some_iff.1 hx).1)
            have hmA := mop_below (g := g) (below_alloc W30 (.cells #[.int .i64 nk, .int .i64 nt, .slice a2 m2 c2] 24 (0, 0)))
            have hP3 := zH (h2.below (below_alloc W30 (.cells #[.int .i64 nk, .int .i64 nt, .slice a2 m2 c2] 24 (0, 0))))
            have hM3 := zH (hM.trans hmA)
            have hN3 := hN2.mop h2 hmA
            have hz32 : gb + 1 ≤ (W30.alloc (.cells #[.int .i64 nk, .int .i64 nt, .slice a2 m2 c2] 24 (0, 0))).heap.size := by simp; omega
            clear hs h2 hm hM hRw hRw2 hP hN hN2 hmA
            obtain ⟨gl2, hgl2⟩ : ∃ x, W30.heap.size = x := ⟨_, rfl⟩
            obtain ⟨WA, hq_WA⟩ : ∃ x, W30.alloc (.cells #[.int .i64 nk, .int .i64 nt, .slice a2 m2 c2] 24 (0, 0)) = x := ⟨_, rfl⟩
            rw [hq_WA] at hL2 hRw3 hP3 hM3 hN3 hz32
            rw [hgl2] at hL2
            replace hL2 := zH hL2
            replace hRw3 := zH hRw3
            replace hN3 := zH hN3
            have hE' := zH hE
            go_wp2_with (at_builtin; refine wpList_append_rowP rfl (.tmp 25) (.tmp 28) rfl rfl (uH hRw3) rfl (uH hL2) (by omega) hz32 ?_)
            intro v4 W40 hR4 hb4 hg4 hl4
            have hzg := hb4.size
            have hbm := hb4.mono (show w.heap.size ≤ gb + 1 by omega)
            have hP := zH ((uH hP3).belowB (uH h) hbm)
            have hM := zH (mop_belowB (uH h) hbm (by omega) (uH hM3))
            have hN := zH ((uH hN3).same (hb4.block _ (by omega)))
            have hRw := zH hR4
            clear hb4 hg4 hl4 hL2 hRw3 hP3 hM3 hN3 hq_WA hgl2 hR4 hbm
            go_wp2_with fail
            refine (paEnd_yes (uH hP) hk6).mono ?_
            rintro e W41 ⟨rfl, h2, hm⟩
            replace hN := zH ((uH hN).mop (uH hP) hm)
            replace hRw := zH ((uH hRw).mop (uH hP) hm)
            have hzz := hm.size
            replace hM := zH ((uH hM).trans hm)
            replace hP := zH h2
            clear hm h2
            have hX := zH (And.intro (uH hRw) (And.intro (uH hP) (And.intro (uH hM) (uH hN))))
            clear hE
            go_wp2
            go_roundg g'
            case measure => omega
            case rel => exact ⟨_, _, _, rfl, (uH hX).1, (uH hX).2.1, (uH hX).2.2.1, (uH hX).2.2.2, uH hE', by rw [F.len_app]; simp only [F.len]; omega, by omega⟩
         | true =>
          simp only [ho, if_true] at hE
          subst hE
          simp only [PR.bind] at hne hfew
          by_cases hlt : L.length ≤ j + 1
          ·
           simp only [hlt, wantA, decide_true, if_true] at hne
           simp only [hlt, wantA, decide_true, if_true] at hfew
           have hl20 : OK l := hfew l (j + 1) rfl
           have e0 := uH hE0
           simp only [hlt, wantA, decide_true, if_true] at e0
           clear hE0
           subst e0
           go_wp2_with fail
           have hK := paIsKind_any (uH hP) 7
           rw [ho] at hK
           refine (hK).mono ?_
           rintro e W20 ⟨rfl, hb⟩
           have h2 := (uH hP).below hb
           have hm := mop_below (g := g) hb
           clear hb
           replace hN := zH ((uH hN).mop (uH hP) hm)
           replace hRw := zH ((uH hRw).mop (uH hP) hm)
           have hzz := hm.size
           replace hM := zH ((uH hM).trans hm)
           replace hP := zH h2
           clear hm h2
           go_wp2_with fail
           refine (paWantKind_yes (uH hP) 7 ho (by decide)).mono ?_
           rintro e W21 ⟨rfl, h2, hm⟩
           replace hN := zH ((uH hN).mop (uH hP) hm)
           replace hRw := zH ((uH hRw).mop (uH hP) hm)
           have hzz := hm.size
           replace hM := zH ((uH hM).trans hm)
           replace hP := zH h2
           clear hm h2
           go_wp2_with fail
           have hb : Below W21.heap.size W21 (World.drew W21) := (Below.refl _ _).drew
           have h2 := (uH hP).below hb
           have hm := mop_below (g := g) hb
           clear hb
           obtain ⟨WD, hq_WD⟩ : ∃ x, World.drew W21 = x := ⟨_, rfl⟩
           rw [hq_WD] at h2 hm
           replace hN := zH ((uH hN).mop (uH hP) hm)
           replace hRw := zH ((uH hRw).mop (uH hP) hm)
           have hzz := hm.size
           replace hM := zH ((uH hM).trans hm)
           replace hP := zH h2
           clear hm h2
           have c0 := (uH hP).c0
           have c1 := (uH hP).c1
           have f0 := (uH hP).fr 0
           have f1 := (uH hP).fr 1
           have hlt2 : ¬ (j : Int) + 1 < (L.length : Int) := by omega
           go_region
           go_wp2_with fail
           clear c0 c1 f0 f1 hlt2
           refine (HS _ (gb + 1) v3 l (uH hRw) hl20 (by have := (uH hN).lt; omega)).mono ?_
           rintro e W22 ⟨rfl, hR4, hb4⟩
           have hzg := hb4.size
           have hbm := hb4.mono (show w.heap.size ≤ gb + 1 by omega)
           have hPs := zH ((uH hP).belowB (uH h) hbm)
           have hMs := zH (mop_belowB (uH h) hbm (by have := (uH hM).size; omega) (uH hM))
           have hNs := zH ((uH hN).same (hb4.block _ (by omega)))
           clear hP hM hN hRw hb4 hbm
           have hP := hPs
           have hM := hMs
           have hN := hNs
           clear hPs hMs hNs
           obtain ⟨av, cv, rfl, _⟩ := hR4.sl (fun _ h => h)
           have hR := zH (hR4.mono (P' := fun x => gb < x) (fun x hx _ => hx))
           clear hR4
           obtain ⟨p0_hN, p1_hN, p2_hN⟩ := (uH hN).box
           have f0_hN := (uH hN).frozen 0
           have f1_hN := (uH hN).frozen 1
           have f2_hN := (uH hN).frozen 2
           have hF := zH (res_finR (k := 1) (t := 0) (w := w) (gb := gb) (by omega) (uH hN) (uH hR) (fun x hx => hx) (uH hP) (uH hM))
           go_wp2
           obtain ⟨q1, q2, q3, q4⟩ := uH hF
           obtain ⟨u0, u1, u2⟩ := q1.box
           refine bodyPost_ret (v := .agg #[.int .i64 (1), .int .i64 (0), .slice (av) ((srtA .nil l).len) (cv)]) (by simp [results, Tryz.results39, go_sem, u0, u1, u2]) rfl ?_
           exact ResR.n (r := .ok ⟨1, 0, srtA .nil l⟩ (j + 1)) ⟨_, _, _, rfl, (by first | exact q2 | (rw [hgb]; exact q2) | exact (q2.mono (fun y hy _ => by omega)).base (fun y hy => by have := q2.lt y hy; omega)), q3, q4⟩
          ·
           have e0 := uH hE0
           simp only [hlt, wantA, decide_false, Bool.false_eq_true, if_false] at e0
           clear hE0 hne hfew
           subst e0
           go_wp2_with fail
           have hK := paIsKind_any (uH hP) 7
           rw [ho] at hK
           refine (hK).mono ?_
           rintro e W20 ⟨rfl, hb⟩
           have h2 := (uH hP).below hb
           have hm := mop_below (g := g) hb
           clear hb
           replace hN := zH ((uH hN).mop (uH hP) hm)
           replace hRw := zH ((uH hRw).mop (uH hP) hm)
           have hzz := hm.size
           replace hM := zH ((uH hM).trans hm)
           replace hP := zH h2
           clear hm h2
           go_wp2_with fail
           refine (paWantKind_yes (uH hP) 7 ho (by decide)).mono ?_
           rintro e W21 ⟨rfl, h2, hm⟩
           replace hN := zH ((uH hN).mop (uH hP) hm)
           replace hRw := zH ((uH hRw).mop (uH hP) hm)
           have hzz := hm.size
           replace hM := zH ((uH hM).trans hm)
           replace hP := zH h2
           clear hm h2
           go_wp2_with fail
           have hb : Below W21.heap.size W21 (World.drew W21) := (Below.refl _ _).drew
           have h2 := (uH hP).below hb
           have hm := mop_below (g := g) hb
           clear hb
           obtain ⟨WD, hq_WD⟩ : ∃ x, World.drew W21 = x := ⟨_, rfl⟩
           rw [hq_WD] at h2 hm
           replace hN := zH ((uH hN).mop (uH hP) hm)
           replace hRw := zH ((uH hRw).mop (uH hP) hm)
           have hzz := hm.size
           replace hM := zH ((uH hM).trans hm)
           replace hP := zH h2
           clear hm h2
           have c0 := (uH hP).c0
           have c1 := (uH hP).c1
           have f0 := (uH hP).fr 0
           have f1 := (uH hP).fr 1
           have hlt2 : (j : Int) + 1 < (L.length : Int) := by omega
           go_region
           go_wp2_with fail
           clear c0 c1 f0 f1 hlt2
           refine (paFail_any g _).mono ?_
           rintro e W22 ⟨rfl, rfl⟩
           go_wp2
           exact ⟨rfl, rfl, ⟨0, uH hP⟩, uH hM⟩
end Go.Proofs.YtphcjoagglcboabGreatDoor
/-
  The order by which a file's kids are sorted.
-/
namespace Go.Proofs.YtphcjoagglcboabGreatDoor
open Go.RowKit Go.Lib Go.Sort
set_option linter.unusedSimpArgs false
set_option linter.unusedVariables false
/-- Which of two numbers is the greater. -/
def cmpA (x y : Int) : Int := if x < y then -1 else if y < x then 1 else 0
set_option maxHeartbeats 1000000 in
theorem cmp_any (x y : Int) (w : World) : Calls Tryz.prog 73 #[.int .i64 x, .int .i64 y] w fun e w' => e = .returned (.int .i64 (cmpA x y)) ∧ w' = w := by
 go_enter Tryz.func73, Tryz.ntmps73
 go_wp2
 all_goals (go_ret; refine ⟨?_, rfl⟩; unfold cmpA; (repeat' split) <;> first | rfl | (exfalso; omega))
set_option maxHeartbeats 1000000 in
theorem file1_any (k t k' t' : Int) (a a' : Option Addr) (n c n' c' : Nat) (w : World) : Calls Tryz.prog 72 #[.agg #[.int .i64 k, .int .i64 t, .slice a n c], .agg #[.int .i64 k', .int .i64 t', .slice a' n' c']] w fun e w' => e = .returned (.int .i64 (cmpA k k')) ∧ Below w.heap.size w w' := by
 have hb1 := below_alloc w (.cells #[.int .i64 k, .int .i64 t, .slice a n c] 24 (0, 0))
 have hb := zH (hb1.trans ((below_alloc (w.alloc (.cells #[.int .i64 k, .int .i64 t, .slice a n c] 24 (0, 0))) (.cells #[.int .i64 k', .int .i64 t', .slice a' n' c'] 24 (0, 0))).mono hb1.size))
 obtain ⟨x0, x1, x2⟩ := ((nblk_new w k t a n c).same ((below_alloc _ (.cells #[.int .i64 k', .int .i64 t', .slice a' n' c'] 24 (0, 0))).block _ (by simp))).box
 obtain ⟨y0, y1, y2⟩ := (nblk_new (w.alloc (.cells #[.int .i64 k, .int .i64 t, .slice a n c] 24 (0, 0))) k' t' a' n' c').box
 clear hb1
 go_enter Tryz.func72, Tryz.ntmps72
 go_wp2_with fail
 refine (cmp_any k k' _).mono ?_
 rintro e W1 ⟨rfl, rfl⟩
 go_wp2
 go_ret
 exact ⟨rfl, uH hb⟩
end Go.Proofs.YtphcjoagglcboabGreatDoor
/-
  A row of nodes whose kinds rise already is sorted: slices.SortStableFunc leaves it as it is.
-/
namespace Go.Proofs.YtphcjoagglcboabGreatDoor
open Go.RowKit Go.Lib Go.Sort
set_option linter.unusedSimpArgs false
set_option linter.unusedVariables false
/-- The kinds of a list of trees. -/
def ks : F → List Int
 | .nil => []
 | .cons k _ _ r => k :: ks r
def Rises (l : F) : Prop := (ks l).Pairwise (· ≤ ·)
theorem ks_len : ∀ f : F, (ks f).length = f.len
 | .nil => rfl
 | .cons _ _ _ r => by simp only [ks, List.length_cons, F.len, ks_len r]
theorem ks_app : ∀ f g : F, ks (f.app g) = ks f ++ ks g
 | .nil, _ => rfl
 | .cons k _ _ r, g => by simp only [F.app, ks, List.cons_append, ks_app r g]
theorem app_assocF : ∀ a b c : F, (a.app b).app c = a.app (b.app c)
 | .nil, _, _ => rfl
 | .cons _ _ _ r, b, c => by simp only [F.app, app_assocF r b c]
theorem app_nilF : ∀ a : F, a.app .nil = a
 | .nil => rfl
 | .cons _ _ _ r => by simp only [F.app, app_nilF r]
theorem insA_end (k t : Int) (c : F) : ∀ l : F, (∀ x ∈ ks l, x ≤ k) → insA k t c l = l.app (.cons k t c .nil)
 | .nil, _ => rfl
 | .cons k' t' c' r, h => by
  have h0 : k' ≤ k := h k' (by simp [ks])
  unfold insA
  rw [if_neg (by omega), insA_end k t c r (fun x hx => h x (by simp [ks, hx]))]
  rfl
theorem srtA_app : ∀ l' l : F, (ks l ++ ks l').Pairwise (· ≤ ·) → srtA l l' = l.app l'
 | .nil, l, _ => by rw [app_nilF]; rfl
 | .cons k t c r, l, h => by
  unfold srtA
  have h1 : ∀ x ∈ ks l, x ≤ k := fun x hx => (List.pairwise_append.1 h).2.2 x hx k (by simp [ks])
  rw [insA_end k t c l h1, srtA_app r _ (by rw [ks_app]; simpa [ks] using h), app_assocF]
  rfl
theorem srtA_rises {l : F} (h : Rises l) : srtA .nil l = l := by
 rw [srtA_app l .nil (by rw [ks, List.nil_append]; exact h)]
 rfl
theorem ks_drop : ∀ (f : F) (i : Nat) {k t : Int} {c r : F}, f.drop i = .cons k t c r → (ks f)[i]? = some k
 | .nil, i, k, t, c, r, h => by rw [F.drop_nil] at h; cases h
 | .cons k' t' c' r', 0, k, t, c, r, h => by
  simp only [F.drop] at h
  injection h with h
  subst h
  rfl
 | .cons k' t' c' r', i + 1, k, t, c, r, h => by
  simp only [F.drop] at h
  rw [ks, List.getElem?_cons_succ]
  exact ks_drop r' i h
theorem rises_at {f : F} (h : Rises f) {i j : Nat} {k t k' t' : Int} {c r c' r' : F} (hi : f.drop i = .cons k t c r) (hj : f.drop j = .cons k' t' c' r') (hij : i < j) : k ≤ k' := by
 have h1 := List.getElem?_eq_some_iff.1 (ks_drop f i hi)
 have h2 := List.getElem?_eq_some_iff.1 (ks_drop f j hj)
 obtain ⟨a1, a2⟩ := h1
 obtain ⟨b1, b2⟩ := h2
 have := List.pairwise_iff_getElem.1 h i j a1 b1 hij
 rw [a2, b2] at this
 exact this
set_option maxHeartbeats 4000000 in
set_option maxRecDepth 100000 in
theorem insert_any (l : F) (w : World) (a : Option Addr) (cap : Nat) (h : Sl w a l.len cap l) (hs : Rises l) (hl : l.len ≤ 19) : Calls Tryz.prog 118 #[.slice a l.len cap, .int .i64 0, .int .i64 l.len, .func (.func 72) #[] #[]] w fun e w' => e = .returned (.tuple #[]) ∧ Below w.heap.size w w' := by
 obtain ⟨n, hn⟩ : ∃ n, l.len = n := ⟨_, rfl⟩
 have hcap := h.2.1.1
 have hcap2 := h.2.2.1
 unfold maxLen at hcap2
 rw [hn] at h hl hcap ⊢
 replace hn := zH hn
 replace hs := zH hs
 go_enter Tryz.func118, Tryz.ntmps118
 go_wp2
 go_loopg [8] n (fun gf s8 wx => ∃ i : Nat, s8 = .int .i64 (i + 1) ∧ n ≤ i + 1 + gf ∧ Below w.heap.size w wx)
 case atStart => exact ⟨0, rfl, by omega, Below.refl _ _⟩
 case round =>
  obtain ⟨i, rfl, hig, hbx⟩ := hrel
  by_cases hlt : i + 1 < n
  ·
   have hlz : (i : Int) + 1 < n := by omega
   obtain ⟨g', rfl⟩ : ∃ g', gk = g' + 1 := ⟨gk - 1, by omega⟩
   go_wp2
   go_loopg [9] 0 (fun gf s9 wx => s9 = .int .i64 (i + 1) ∧ Below w.heap.size w wx)
   case atStart => exact ⟨rfl, hbx⟩
   case round =>
    clear hbx
    obtain ⟨rfl, hbx⟩ := hrel
    obtain ⟨g1, o1, k1, t1, a1, n1, cap1, c1, rfl, ht1, hd1, y0, y1, y2, hc1⟩ := (h.below hbx).at hlt
    obtain ⟨g2, o2, k2, t2, a2, n2, cap2, c2, he, ht2, hd2, z0, z1, z2, hc2⟩ := (h.below hbx).at (show i < n by omega)
    injection he with he
    injection he with he1 he2
    subst he1 he2
    have hk := rises_at (uH hs) hd2 hd1 (by omega)
    have hcmp : ¬ cmpA k1 k2 < 0 := by
     unfold cmpA
     split
     ·
      omega
     ·
      split <;> omega
    have hrec := zH (fun d os => Calls.regrown_of (file1_any k1 t1 k2 t2 a1 a2 n1 cap1 n2 cap2 (grow (redrawn wr d) os)))
    have hbn := zH (fun d os => hbx.trans ((below_regrown wr d os).mono hbx.size))
    have Y0 := fun d os => cell_regrown y0 d os
    have Y1 := fun d os => cell_regrown y1 d os
    have Y2 := fun d os => cell_regrown y2 d os
    have Z0 := fun d os => cell_regrown z0 d os
    have Z1 := fun d os => cell_regrown z1 d os
    have Z2 := fun d os => cell_regrown z2 d os
    have hpos : (0 : Int) < (i : Int) + 1 := by omega
    clear y0 y1 y2 z0 z1 z2 hd1 hd2 hc1 hc2 ht1 ht2
    generalize hq : cmpA k1 k2 = q at hcmp hrec
    go_upto_region 4 with fail
    refine wp_region_quiet_below (by kernel_rfl) (by kernel_rfl) ?_
    repeat (go_big_quiet_step (first | (go_at_call 72; exact uH hrec _ _)))
    refine wpQuiet_nil ?_
    rintro W' ⟨p, rfl⟩
    go_wp2
    go_roundg g'
    case measure => omega
    case rel => exact ⟨i + 1, by go_num, by omega, uH hbn _ _⟩
  ·
   have hlz : ¬ (i : Int) + 1 < n := by omega
   go_wp2
   go_end0
   exact ⟨rfl, hbx⟩
set_option maxHeartbeats 4000000 in
set_option maxRecDepth 100000 in
theorem stable_any (l : F) (w : World) (a : Option Addr) (cap : Nat) (h : Sl w a l.len cap l) (hs : Rises l) (hl : l.len ≤ 19) : Calls Tryz.prog 94 #[.slice a l.len cap, .int .i64 l.len, .func (.func 72) #[] #[]] w fun e w' => e = .returned (.tuple #[]) ∧ Below w.heap.size w w' := by
 have hI := zH (insert_any l w a cap h hs hl)
 have h1 : ¬ (20 : Int) ≤ l.len := by omega
 have h2 : ¬ (20 : Int) < l.len := by omega
 generalize l.len = n at *
 clear h hs
 go_enter Tryz.func94, Tryz.ntmps94
 go_wp2
 go_loopg [7, 8] 0 (fun gf s7 s8 wx => s7 = .int .i64 0 ∧ s8 = .int .i64 20 ∧ wx = w)
 case atStart => exact ⟨rfl, rfl, rfl⟩
 case round =>
  obtain ⟨rfl, rfl, rfl⟩ := hrel
  go_wp2_with fail
  refine (uH hI).mono ?_
  rintro e W1 ⟨rfl, hb⟩
  clear hI
  go_wp2
  go_loopg [6, 7, 8] 0 (fun gf s6 s7 s8 wx => s6 = .int .i64 20 ∧ wx = W1)
  case atStart => exact ⟨rfl, rfl⟩
  case round =>
   obtain ⟨rfl, rfl⟩ := hrel
   go_wp2
   go_end0
   exact ⟨rfl, hb⟩
set_option maxHeartbeats 4000000 in
set_option maxRecDepth 100000 in
theorem sortStable_any (w : World) (B : Nat) (v : Value) (l : F) (h : RowP (fun x => B ≤ x) w B v l) (hk : Rises l ∧ l.len ≤ 19) (hB : B ≤ w.heap.size) : Calls Tryz.prog 71 #[v, .func (.func 72) #[] #[]] w fun e w' => e = .returned (.tuple #[]) ∧ RowP (fun x => B ≤ x) w' B v (srtA .nil l) ∧ Below B w w' := by
 obtain ⟨hs, hl⟩ := hk
 obtain ⟨a, cap, rfl, hsl⟩ := h.sl (fun _ h => h)
 rw [srtA_rises hs]
 have hS := zH (stable_any l w a cap hsl.any hs hl)
 replace h := zH h
 replace hs := zH hs
 generalize hn : l.len = n at *
 go_enter Tryz.func71, Tryz.ntmps71
 go_wp2_with fail
 refine (uH hS).mono ?_
 rintro e W1 ⟨rfl, hb⟩
 clear hS
 go_wp2
 go_end0
 exact ⟨rfl, (uH h).keep hb.size (fun g cur hg => hb.block g (Array.getElem?_eq_some_iff.1 hg).1), hb.mono hB⟩
end Go.Proofs.YtphcjoagglcboabGreatDoor
/-
  The parser: what Tokens defers.
-/
namespace Go.Proofs.YtphcjoagglcboabGreatDoor
open Go.RowKit Go.Lib Go.Sort
set_option linter.unusedSimpArgs false
set_option linter.unusedVariables false
/-- Nothing panicked: nothing is written. -/
theorem tokCatch_idle (p q r : Addr) (w : World) : CallsD Tryz.prog 38 #[.pointer (some p), .pointer (some q), .pointer (some r)] .returning w fun e u' w' => e = .returned (.tuple #[]) ∧ u' = .returning ∧ w' = w := by
 refine callsD_of_wpS Tryz.func38 rfl fun c₀ cs hu => ?_
 apply wpS_seq
 apply wpS_region
 simp [wpOpsS, go_sem, recoverD, hu, Tryz.ntmps38, Exit.thenS]
 refine wpS_cond (t := false) (by simp [Act.eval, Array.replicate]) ?_
 simp only [Bool.false_eq_true, if_false]
 refine wpS_of_wp (wp_skip ?_)
 cases c₀
 simp_all [bodyPostS, results, Tryz.results38]
/-- A panic is recovered: the zero node, and where the parser stood. -/
theorem tokCatch_panic (g gt gf : Nat) (i : Int) (k t x : Int) (a : Option Addr) (n c : Nat) (w : World) (hi : w.cell? ⟨g, 1, none⟩ = some (.int .i64 i)) (hN : NBlk w gt k t a n c) (hx : w.cell? ⟨gf, 0, none⟩ = some (.int .i64 x)) (hz : w.frozen? ⟨gf, 0, none⟩ = false) (hne : gf ≠ gt) :
  CallsD Tryz.prog 38 #[.pointer (some ⟨g, 0, none⟩), .pointer (some ⟨gt, 0, none⟩), .pointer (some ⟨gf, 0, none⟩)] (.panicking PC) w fun e u' w' => e = .returned (.tuple #[]) ∧ u' = .panicking [{ v := .iface 9 (.string ⟨#[112, 97, 114, 115, 101, 58, 32, 97, 32, 116, 111, 107, 101, 110, 32, 105, 115, 32, 97, 116, 32, 102, 97, 117, 108, 116]⟩), recovered := true }] ∧
   w' = (((w.setCell ⟨gt, 0, none⟩ (.int .i64 0)).setCell ⟨gt, 1, none⟩ (.int .i64 0)).setCell ⟨gt, 2, none⟩ (.slice none 0 0)).setCell ⟨gf, 0, none⟩ (.int .i64 i) := by
 obtain ⟨c0, c1, c2⟩ := hN.box
 have f0 := hN.frozen 0
 have f1 := hN.frozen 1
 have f2 := hN.frozen 2
 refine callsD_of_wpS Tryz.func38 rfl fun c₀ cs hu => ?_
 apply wpS_seq
 apply wpS_region
 simp [wpOpsS, go_sem, recoverD, hu, PC, Tryz.ntmps38, Exit.thenS]
 refine wpS_cond (t := true) (by simp [Act.eval, Array.replicate]) ?_
 simp only [if_true]
 apply wpS_region
 simp [wpOpsS, go_sem, hi, c0, c1, c2, f0, f1, f2, hx, hz, bodyPostS, results, Tryz.results38]
end Go.Proofs.YtphcjoagglcboabGreatDoor

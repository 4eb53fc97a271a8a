/-
  5 texts in one.
-/
import Derived.Test.YtiknnobgoamgcaaGreatDoorB17
import Derived.Test.YtiknnobgoamgcaaGreatDoorB03
import Derived.Defers
import Derived.Recover
import Derived.WalkKit
import Derived.Test.YtiknnobgoamgcaaGreatDoorB01
import Derived.KernelRfl
/-
  The parser: a file.
-/
namespace Go.Proofs.YtiknnobgoamgcaaGreatDoor
open Go.RowKit Go.Lib Go.Sort
set_option linter.unusedSimpArgs false
set_option linter.unusedVariables false
/-- A file from the i-th token on. -/
def filG (L : List Tk) (f i : Nat) : PR Nd := wantA (keyA L i [112, 97, 99, 107, 97, 103, 101]) i ((leafA L 2 1 (i + 1)).bind fun n j => (endA L j).bind fun _ k => (impA L f (one n) k).bind fun l m => (dcsA L f l m).bind fun l' o =>
 wantA (decide (L.length ≤ o + 1)) (o + 1) (.ok ⟨1, 0, l'⟩ (o + 1)))
/-- Its kids, as they stand. -/
def filU (L : List Tk) (f i : Nat) : PR F := wantA (keyA L i [112, 97, 99, 107, 97, 103, 101]) i ((leafA L 2 1 (i + 1)).bind fun n j => (endA L j).bind fun _ k => (impA L f (one n) k).bind fun l m => (dcsA L f l m).bind fun l' o =>
 wantA (decide (L.length ≤ o + 1)) (o + 1) (.ok l' (o + 1)))
theorem filG_zero (L : List Tk) (f : Nat) : filG L f 0 = filA L f := rfl
set_option maxHeartbeats 4000000 in
set_option maxRecDepth 100000 in
theorem paFile_any {g : Nat} {ta : Option Addr} {tc : Nat} {L : List Tk} {i : Nat} {w : World} (h : PaW g (.slice ta L.length tc) L i 0 w) {f : Nat} (hf : f ≤ 900000) (hne : filG L f i ≠ .out) : Calls Tryz.prog 40 #[.pointer (some ⟨g, 0, none⟩)] w fun e w' => ResN w.heap.size g (.slice ta L.length tc) L 0 w (filG L f i) e w' := by
 obtain ⟨R0, hE0⟩ : ∃ R0, filG L f i = R0 := ⟨_, rfl⟩
 rw [hE0]
 unfold filG at hne hE0
 cases h1 : keyA L i [112, 97, 99, 107, 97, 103, 101] with
 | false =>
  simp only [h1, wantA, Bool.false_eq_true, if_false] at hE0
  subst hE0
  clear hne
  have hP := zH (h.alloc (.cells #[.int .i64 0, .int .i64 0, .slice none 0 0] 24 (0, 0))).1
  have hM := zH (h.alloc (.cells #[.int .i64 0, .int .i64 0, .slice none 0 0] 24 (0, 0))).2
  have hN := zH (nblk_new w 0 0 none 0 0)
  obtain ⟨gb, hgb⟩ : ∃ gb, w.heap.size = gb := ⟨_, rfl⟩
  have hz : (w.alloc (.cells #[.int .i64 0, .int .i64 0, .slice none 0 0] 24 (0, 0))).heap.size = gb + 1 := by simp [hgb]
  have hgl : g < gb := by have := h.lt; omega
  rw [hgb] at hN
  obtain ⟨W1, hq_W1⟩ : ∃ W1, w.alloc (.cells #[.int .i64 0, .int .i64 0, .slice none 0 0] 24 (0, 0)) = W1 := ⟨_, rfl⟩
  rw [hq_W1] at hP hM hN hz
  replace hz := And.intro (Nat.le_of_eq hz) (Nat.le_of_eq hz.symm)
  replace h := zH h
  go_enter Tryz.func40, Tryz.ntmps40
  go_wp2_with fail
  clear hq_W1
  refine (paKey_any _ _).mono ?_
  rintro e W2 ⟨rfl, hb⟩
  have h2 := (uH hP).below hb
  have hm := mop_below (g := g) hb
  clear hb
  replace hN := zH ((uH hN).mop (uH hP) hm)
  have hzz := hm.size
  replace hM := zH ((uH hM).trans hm)
  replace hP := zH h2
  clear hm h2
  go_wp2_with fail
  refine (paWant_no (uH hP) (keyT [112, 97, 99, 107, 97, 103, 101]) (by rw [eqB_key]; exact h1)).mono ?_
  rintro e W3 hBad
  obtain rfl := hBad.1
  have hG := zH (hBad.pre (uH hM))
  clear hBad
  go_wp2
  exact ⟨rfl, uH hG⟩
 | true =>
  simp only [h1, wantA, if_true] at hne hE0
  cases h2 : knd L (i + 1) 1 with
  | false =>
   simp only [leafA, h2, PR.bind, Bool.false_eq_true, if_false] at hE0
   subst hE0
   clear hne
   have hP := zH (h.alloc (.cells #[.int .i64 0, .int .i64 0, .slice none 0 0] 24 (0, 0))).1
   have hM := zH (h.alloc (.cells #[.int .i64 0, .int .i64 0, .slice none 0 0] 24 (0, 0))).2
   have hN := zH (nblk_new w 0 0 none 0 0)
   obtain ⟨gb, hgb⟩ : ∃ gb, w.heap.size = gb := ⟨_, rfl⟩
   have hz : (w.alloc (.cells #[.int .i64 0, .int .i64 0, .slice none 0 0] 24 (0, 0))).heap.size = gb + 1 := by simp [hgb]
   have hgl : g < gb := by have := h.lt; omega
   rw [hgb] at hN
   obtain ⟨W1, hq_W1⟩ : ∃ W1, w.alloc (.cells #[.int .i64 0, .int .i64 0, .slice none 0 0] 24 (0, 0)) = W1 := ⟨_, rfl⟩
   rw [hq_W1] at hP hM hN hz
   replace hz := And.intro (Nat.le_of_eq hz) (Nat.le_of_eq hz.symm)
   replace h := zH h
   go_enter Tryz.func40, Tryz.ntmps40
   go_wp2_with fail
   clear hq_W1
   refine (paKey_any _ _).mono ?_
   rintro e W2 ⟨rfl, hb⟩
   have h2 := (uH hP).below hb
   have hm := mop_below (g := g) hb
   clear hb
   replace hN := zH ((uH hN).mop (uH hP) hm)
   have hzz := hm.size
   replace hM := zH ((uH hM).trans hm)
   replace hP := zH h2
   clear hm h2
   go_wp2_with fail
   refine (paWant_yes (uH hP) (keyT [112, 97, 99, 107, 97, 103, 101]) (by rw [eqB_key]; exact h1) (keyA_lt h1)).mono ?_
   rintro e W3 ⟨rfl, h2, hm⟩
   replace hN := zH ((uH hN).mop (uH hP) hm)
   have hzz := hm.size
   replace hM := zH ((uH hM).trans hm)
   replace hP := zH h2
   clear hm h2
   go_wp2_with fail
   refine (paNamed_no (uH hP) 2 h2).mono ?_
   rintro e W4 hBad
   obtain rfl := hBad.1
   have hG := zH (hBad.pre (uH hM))
   clear hBad
   go_wp2
   exact ⟨rfl, uH hG⟩
  | true =>
   simp only [leafA, h2, PR.bind, if_true] at hne hE0
   cases h3 : knd L (i + 1 + 1) 6 with
   | false =>
    simp only [endA, wantA, h3, Bool.false_eq_true, if_false] at hE0
    subst hE0
    clear hne
    have hP := zH (h.alloc (.cells #[.int .i64 0, .int .i64 0, .slice none 0 0] 24 (0, 0))).1
    have hM := zH (h.alloc (.cells #[.int .i64 0, .int .i64 0, .slice none 0 0] 24 (0, 0))).2
    have hN := zH (nblk_new w 0 0 none 0 0)
    obtain ⟨gb, hgb⟩ : ∃ gb, w.heap.size = gb := ⟨_, rfl⟩
    have hz : (w.alloc (.cells #[.int .i64 0, .int .i64 0, .slice none 0 0] 24 (0, 0))).heap.size = gb + 1 := by simp [hgb]
    have hgl : g < gb := by have := h.lt; omega
    rw [hgb] at hN
    obtain ⟨W1, hq_W1⟩ : ∃ W1, w.alloc (.cells #[.int .i64 0, .int .i64 0, .slice none 0 0] 24 (0, 0)) = W1 := ⟨_, rfl⟩
    rw [hq_W1] at hP hM hN hz
    replace hz := And.intro (Nat.le_of_eq hz) (Nat.le_of_eq hz.symm)
    replace h := zH h
    go_enter Tryz.func40, Tryz.ntmps40
    go_wp2_with fail
    clear hq_W1
    refine (paKey_any _ _).mono ?_
    rintro e W2 ⟨rfl, hb⟩
    have h2 := (uH hP).below hb
    have hm := mop_below (g := g) hb
    clear hb
    replace hN := zH ((uH hN).mop (uH hP) hm)
    have hzz := hm.size
    replace hM := zH ((uH hM).trans hm)
    replace hP := zH h2
    clear hm h2
    go_wp2_with fail
    refine (paWant_yes (uH hP) (keyT [112, 97, 99, 107, 97, 103, 101]) (by rw [eqB_key]; exact h1) (keyA_lt h1)).mono ?_
    rintro e W3 ⟨rfl, h2, hm⟩
    replace hN := zH ((uH hN).mop (uH hP) hm)
    have hzz := hm.size
    replace hM := zH ((uH hM).trans hm)
    replace hP := zH h2
    clear hm h2
    go_wp2_with fail
    have hNl := (uH hN).lt
    refine (paNamed_yes (uH hP) 2 h2).mono ?_
    rintro e W9 ⟨a2, m2, c2, rfl, hs, h2', hm⟩
    dsimp only at hs
    have hzs := hm.size
    have hN9 := (uH hN).mop (uH hP) hm
    have hM9 := (uH hM).trans hm
    have hsB : SlQ (fun x => gb + 1 ≤ x) W9 a2 m2 c2 .nil := hs.mono (fun x hx => by have e1 := hx.1; omega)
    have hR0 := zH (rowP_one (B := gb + 1) (k := 2) (t := ((i : Int) + 1)) (by omega) hsB)
    have hP2 := zH (h2'.below (below_alloc W9 (.cells #[.int .i64 2, .int .i64 ((i : Int) + 1), .slice a2 m2 c2] 24 (0, 0))))
    have hm2 := mop_below (g := g) (below_alloc W9 (.cells #[.int .i64 2, .int .i64 ((i : Int) + 1), .slice a2 m2 c2] 24 (0, 0)))
    have hM2 := zH (hM9.trans hm2)
    have hN2 := zH (hN9.mop h2' hm2)
    have hzA : (W9.alloc (.cells #[.int .i64 2, .int .i64 ((i : Int) + 1), .slice a2 m2 c2] 24 (0, 0))).heap.size = W9.heap.size + 1 := by simp
    clear hm h2' hs hsB hM hP hN hN9 hM9 hm2
    obtain ⟨gl, hgl⟩ : ∃ x, W9.heap.size = x := ⟨_, rfl⟩
    obtain ⟨WA, hq_WA⟩ : ∃ x, W9.alloc (.cells #[.int .i64 2, .int .i64 ((i : Int) + 1), .slice a2 m2 c2] 24 (0, 0)) = x := ⟨_, rfl⟩
    rw [hq_WA] at hR0 hP2 hM2 hN2 hzA
    rw [hgl] at hR0
    replace hzA := And.intro (Nat.le_of_eq hzA) (Nat.le_of_eq hzA.symm)
    go_wp2_with fail
    clear hq_WA
    have hR := hR0
    have hP := hP2
    have hM := hM2
    have hN := hN2
    clear hR0 hP2 hM2 hN2
    refine (paEnd_no (uH hP) h3).mono ?_
    rintro e W40 hBad
    obtain rfl := hBad.1
    have hG := zH (hBad.pre (uH hM))
    clear hBad
    go_wp2
    exact ⟨rfl, uH hG⟩
   | true =>
    simp only [endA, wantA, h3, if_true, one] at hne hE0
    obtain ⟨R1, hR1⟩ : ∃ R1, impA L f (.cons 2 (i + 1 : Nat) .nil .nil) (skN L (i + 1 + 1 + 1)) = R1 := ⟨_, rfl⟩
    rw [hR1] at hne hE0
    replace hE0 := zH hE0
    have hP := zH (h.alloc (.cells #[.int .i64 0, .int .i64 0, .slice none 0 0] 24 (0, 0))).1
    have hM := zH (h.alloc (.cells #[.int .i64 0, .int .i64 0, .slice none 0 0] 24 (0, 0))).2
    have hN := zH (nblk_new w 0 0 none 0 0)
    obtain ⟨gb, hgb⟩ : ∃ gb, w.heap.size = gb := ⟨_, rfl⟩
    have hz : (w.alloc (.cells #[.int .i64 0, .int .i64 0, .slice none 0 0] 24 (0, 0))).heap.size = gb + 1 := by simp [hgb]
    have hgl : g < gb := by have := h.lt; omega
    rw [hgb] at hN
    obtain ⟨W1, hq_W1⟩ : ∃ W1, w.alloc (.cells #[.int .i64 0, .int .i64 0, .slice none 0 0] 24 (0, 0)) = W1 := ⟨_, rfl⟩
    rw [hq_W1] at hP hM hN hz
    replace hz := And.intro (Nat.le_of_eq hz) (Nat.le_of_eq hz.symm)
    replace h := zH h
    go_enter Tryz.func40, Tryz.ntmps40
    go_wp2_with fail
    clear hq_W1
    refine (paKey_any _ _).mono ?_
    rintro e W2 ⟨rfl, hb⟩
    have h2 := (uH hP).below hb
    have hm := mop_below (g := g) hb
    clear hb
    replace hN := zH ((uH hN).mop (uH hP) hm)
    have hzz := hm.size
    replace hM := zH ((uH hM).trans hm)
    replace hP := zH h2
    clear hm h2
    go_wp2_with fail
    refine (paWant_yes (uH hP) (keyT [112, 97, 99, 107, 97, 103, 101]) (by rw [eqB_key]; exact h1) (keyA_lt h1)).mono ?_
    rintro e W3 ⟨rfl, h2, hm⟩
    replace hN := zH ((uH hN).mop (uH hP) hm)
    have hzz := hm.size
    replace hM := zH ((uH hM).trans hm)
    replace hP := zH h2
    clear hm h2
    go_wp2_with fail
    have hNl := (uH hN).lt
    refine (paNamed_yes (uH hP) 2 h2).mono ?_
    rintro e W9 ⟨a2, m2, c2, rfl, hs, h2', hm⟩
    dsimp only at hs
    have hzs := hm.size
    have hN9 := (uH hN).mop (uH hP) hm
    have hM9 := (uH hM).trans hm
    have hsB : SlQ (fun x => gb + 1 ≤ x) W9 a2 m2 c2 .nil := hs.mono (fun x hx => by have e1 := hx.1; omega)
    have hR0 := zH (rowP_one (B := gb + 1) (k := 2) (t := ((i : Int) + 1)) (by omega) hsB)
    have hP2 := zH (h2'.below (below_alloc W9 (.cells #[.int .i64 2, .int .i64 ((i : Int) + 1), .slice a2 m2 c2] 24 (0, 0))))
    have hm2 := mop_below (g := g) (below_alloc W9 (.cells #[.int .i64 2, .int .i64 ((i : Int) + 1), .slice a2 m2 c2] 24 (0, 0)))
    have hM2 := zH (hM9.trans hm2)
    have hN2 := zH (hN9.mop h2' hm2)
    have hzA : (W9.alloc (.cells #[.int .i64 2, .int .i64 ((i : Int) + 1), .slice a2 m2 c2] 24 (0, 0))).heap.size = W9.heap.size + 1 := by simp
    clear hm h2' hs hsB hM hP hN hN9 hM9 hm2
    obtain ⟨gl, hgl⟩ : ∃ x, W9.heap.size = x := ⟨_, rfl⟩
    obtain ⟨WA, hq_WA⟩ : ∃ x, W9.alloc (.cells #[.int .i64 2, .int .i64 ((i : Int) + 1), .slice a2 m2 c2] 24 (0, 0)) = x := ⟨_, rfl⟩
    rw [hq_WA] at hR0 hP2 hM2 hN2 hzA
    rw [hgl] at hR0
    replace hzA := And.intro (Nat.le_of_eq hzA) (Nat.le_of_eq hzA.symm)
    go_wp2_with fail
    clear hq_WA
    have hR := hR0
    have hP := hP2
    have hM := hM2
    have hN := hN2
    clear hR0 hP2 hM2 hN2
    refine (paEnd_yes (uH hP) h3).mono ?_
    rintro e W40 ⟨rfl, h2, hm⟩
    replace hN := zH ((uH hN).mop (uH hP) hm)
    replace hR := zH ((uH hR).mop (uH hP) hm)
    have hzz := hm.size
    replace hM := zH ((uH hM).trans hm)
    replace hP := zH h2
    clear hm h2
    go_upto_region 4 with fail
    go_loopg [3] f (fun gf s3 wx => ∃ (v3 : Value) (l : F) (j : Nat), v3 = s3 ∧ RowP (fun x => gb + 1 ≤ x) wx (gb + 1) s3 l ∧ PaW g (.slice ta L.length tc) L j 0 wx ∧ MoP g w wx ∧ NBlk wx gb 0 0 none 0 0 ∧ impA L gf l j = R1 ∧ l.len + gf ≤ f + 1 ∧ gf ≤ f)
    case atStart => exact ⟨_, _, _, rfl, uH hR, uH hP, uH hM, uH hN, hR1, by simp only [F.len]; omega, Nat.le_refl _⟩
    case round =>
     obtain ⟨v3, l, j, rfl, hRw, hP, hM, hN, hE, hlf, hgf⟩ := hrel
     cases gk with
     | zero =>
      unfold impA at hE
      rw [← hE] at hne
      exact absurd rfl hne
     | succ g' =>
      unfold impA at hE
      clear hR hR1
      replace hRw := zH hRw
      have hNl := hN.lt
      replace hP := zH hP
      replace hM := zH hM
      replace hN := zH hN
      cases ho : keyA L j [105, 109, 112, 111, 114, 116] with
      | true =>
       simp only [ho, if_true] at hE
       cases hk : knd L (j + 1) 1 with
       | false =>
        simp only [leafA, hk, PR.bind, Bool.false_eq_true, if_false] at hE
        subst hE
        have e0 := uH hE0
        clear hE0 hne
        dsimp only at e0
        subst e0
        go_wp2_with fail
        refine (paKey_any _ _).mono ?_
        rintro e W20 ⟨rfl, hb⟩
        have h2 := (uH hP).below hb
        have hm := mop_below (g := g) hb
        clear hb
        replace hN := zH ((uH hN).mop (uH hP) hm)
        replace hRw := zH ((uH hRw).mop (uH hP) hm)
        have hzz := hm.size
        replace hM := zH ((uH hM).trans hm)
        replace hP := zH h2
        clear hm h2
        go_wp2_with fail
        refine (paTake_yes (uH hP) (keyT [105, 109, 112, 111, 114, 116]) (by rw [eqB_key]; exact ho) (keyA_lt ho)).mono ?_
        rintro e W21 ⟨rfl, h2, hm⟩
        replace hN := zH ((uH hN).mop (uH hP) hm)
        replace hRw := zH ((uH hRw).mop (uH hP) hm)
        have hzz := hm.size
        replace hM := zH ((uH hM).trans hm)
        replace hP := zH h2
        clear hm h2
        go_wp2_with fail
        refine (paNamed_no (uH hP) 3 hk).mono ?_
        rintro e W22 hBad
        obtain rfl := hBad.1
        have hG := zH (hBad.pre (uH hM))
        clear hBad
        go_wp2
        exact ⟨rfl, uH hG⟩
       | true =>
        simp only [leafA, hk, PR.bind, if_true, snoc, one] at hE
        cases hk6 : knd L (j + 1 + 1) 6 with
        | false =>
         simp only [endA, wantA, hk6, Bool.false_eq_true, if_false] at hE
         subst hE
         have e0 := uH hE0
         clear hE0 hne
         dsimp only at e0
         subst e0
         go_wp2_with fail
         refine (paKey_any _ _).mono ?_
         rintro e W20 ⟨rfl, hb⟩
         have h2 := (uH hP).below hb
         have hm := mop_below (g := g) hb
         clear hb
         replace hN := zH ((uH hN).mop (uH hP) hm)
         replace hRw := zH ((uH hRw).mop (uH hP) hm)
         have hzz := hm.size
         replace hM := zH ((uH hM).trans hm)
         replace hP := zH h2
         clear hm h2
         go_wp2_with fail
         refine (paTake_yes (uH hP) (keyT [105, 109, 112, 111, 114, 116]) (by rw [eqB_key]; exact ho) (keyA_lt ho)).mono ?_
         rintro e W21 ⟨rfl, h2, hm⟩
         replace hN := zH ((uH hN).mop (uH hP) hm)
         replace hRw := zH ((uH hRw).mop (uH hP) hm)
         have hzz := hm.size
         replace hM := zH ((uH hM).trans hm)
         replace hP := zH h2
         clear hm h2
         go_wp2_with fail
         refine (paNamed_yes (uH hP) 3 hk).mono ?_
         rintro e W30 ⟨a2, m2, c2, rfl, hs, h2, hm⟩
         dsimp only at hs
         have hRl := (uH hRw).lt
         have hRw2 := (uH hRw).mop (uH hP) hm
         have hN2 := (uH hN).mop (uH hP) hm
         have hgs := (uH hM).size
         replace hM := (uH hM).trans hm
         have hzs := hm.size
         have hL2 : SlQ (fun x => gb + 1 ≤ x ∧ v3.ownBlock ≠ some x ∧ x < (W30.alloc (.cells #[.int .i64 3, .int .i64 ((j : Int) + 1), .slice a2 m2 c2] 24 (0, 0))).heap.size) (W30.alloc (.cells #[.int .i64 3, .int .i64 ((j : Int) + 1), .slice a2 m2 c2] 24 (0, 0))) (some ⟨W30.heap.size, 0, none⟩) 1 1 (.cons 3 ((j : Int) + 1) .nil .nil) :=
          (lit1_sl (P := fun x => gb + 1 ≤ x ∧ v3.ownBlock ≠ some x) W30 3 ((j : Int) + 1) a2 m2 c2 .nil (hs.mono (fun x hx => ⟨by have e1 := hx.1; omega, fun e => by have := hRl x e; have e1 := hx.1; omega⟩)) ⟨by omega, fun e => by have := hRl _ e; omega⟩).mono (fun x hx => ⟨hx.1.1, hx.1.2, hx.lt⟩)
         have hRw3 : RowP (fun x => gb + 1 ≤ x) (W30.alloc (.cells #[.int .i64 3, .int .i64 ((j : Int) + 1), .slice a2 m2 c2] 24 (0, 0))) (gb + 1) v3 l := hRw2.keep (below_alloc W30 (.cells #[.int .i64 3, .int .i64 ((j : Int) + 1), .slice a2 m2 c2] 24 (0, 0))).size (fun x cur hx => (below_alloc W30 (.cells #[.int .i64 3, .int .i64 ((j : Int) + 1), .slice a2 m2 c2] 24 (0, 0))).block x (Array.getElem?_eq_some_iff.1 hx).1)
         have hmA := mop_below (g := g) (below_alloc W30 (.cells #[.int .i64 3, .int .i64 ((j : Int) + 1), .slice a2 m2 c2] 24 (0, 0)))
         have hP3 := zH (h2.below (below_alloc W30 (.cells #[.int .i64 3, .int .i64 ((j : Int) + 1), .slice a2 m2 c2] 24 (0, 0))))
         have hM3 := zH (hM.trans hmA)
         have hN3 := hN2.mop h2 hmA
         have hz32 : gb + 1 ≤ (W30.alloc (.cells #[.int .i64 3, .int .i64 ((j : Int) + 1), .slice a2 m2 c2] 24 (0, 0))).heap.size := by simp; omega
         clear hs h2 hm hM hRw hRw2 hP hN hN2 hmA
         obtain ⟨gl2, hgl2⟩ : ∃ x, W30.heap.size = x := ⟨_, rfl⟩
         obtain ⟨WA, hq_WA⟩ : ∃ x, W30.alloc (.cells #[.int .i64 3, .int .i64 ((j : Int) + 1), .slice a2 m2 c2] 24 (0, 0)) = x := ⟨_, rfl⟩
         rw [hq_WA] at hL2 hRw3 hP3 hM3 hN3 hz32
         rw [hgl2] at hL2
         replace hL2 := zH hL2
         replace hRw3 := zH hRw3
         replace hN3 := zH hN3
         go_wp2_with (at_builtin; refine wpList_append_rowP rfl (.tmp 15) (.tmp 18) rfl rfl (uH hRw3) rfl (uH hL2) (by omega) hz32 ?_)
         intro v4 W40 hR4 hb4 hg4 hl4
         have hzg := hb4.size
         have hbm := hb4.mono (show w.heap.size ≤ gb + 1 by omega)
         have hP := zH ((uH hP3).belowB (uH h) hbm)
         have hM := zH (mop_belowB (uH h) hbm (by omega) (uH hM3))
         have hN := zH ((uH hN3).same (hb4.block _ (by omega)))
         have hRw := zH hR4
         clear hb4 hg4 hl4 hL2 hRw3 hP3 hM3 hN3 hq_WA hgl2 hR4 hbm
         go_wp2_with fail
         refine (paEnd_no (uH hP) hk6).mono ?_
         rintro e W41 hBad
         obtain rfl := hBad.1
         have hG := zH (hBad.pre (uH hM))
         clear hBad
         go_wp2
         exact ⟨rfl, uH hG⟩
        | true =>
         simp only [endA, wantA, hk6, if_true] at hE
         go_wp2_with fail
         refine (paKey_any _ _).mono ?_
         rintro e W20 ⟨rfl, hb⟩
         have h2 := (uH hP).below hb
         have hm := mop_below (g := g) hb
         clear hb
         replace hN := zH ((uH hN).mop (uH hP) hm)
         replace hRw := zH ((uH hRw).mop (uH hP) hm)
         have hzz := hm.size
         replace hM := zH ((uH hM).trans hm)
         replace hP := zH h2
         clear hm h2
         go_wp2_with fail
         refine (paTake_yes (uH hP) (keyT [105, 109, 112, 111, 114, 116]) (by rw [eqB_key]; exact ho) (keyA_lt ho)).mono ?_
         rintro e W21 ⟨rfl, h2, hm⟩
         replace hN := zH ((uH hN).mop (uH hP) hm)
         replace hRw := zH ((uH hRw).mop (uH hP) hm)
         have hzz := hm.size
         replace hM := zH ((uH hM).trans hm)
         replace hP := zH h2
         clear hm h2
         go_wp2_with fail
         refine (paNamed_yes (uH hP) 3 hk).mono ?_
         rintro e W30 ⟨a2, m2, c2, rfl, hs, h2, hm⟩
         dsimp only at hs
         have hRl := (uH hRw).lt
         have hRw2 := (uH hRw).mop (uH hP) hm
         have hN2 := (uH hN).mop (uH hP) hm
         have hgs := (uH hM).size
         replace hM := (uH hM).trans hm
         have hzs := hm.size
         have hL2 : SlQ (fun x => gb + 1 ≤ x ∧ v3.ownBlock ≠ some x ∧ x < (W30.alloc (.cells #[.int .i64 3, .int .i64 ((j : Int) + 1), .slice a2 m2 c2] 24 (0, 0))).heap.size) (W30.alloc (.cells #[.int .i64 3, .int .i64 ((j : Int) + 1), .slice a2 m2 c2] 24 (0, 0))) (some ⟨W30.heap.size, 0, none⟩) 1 1 (.cons 3 ((j : Int) + 1) .nil .nil) :=
          (lit1_sl (P := fun x => gb + 1 ≤ x ∧ v3.ownBlock ≠ some x) W30 3 ((j : Int) + 1) a2 m2 c2 .nil (hs.mono (fun x hx => ⟨by have e1 := hx.1; omega, fun e => by have := hRl x e; have e1 := hx.1; omega⟩)) ⟨by omega, fun e => by have := hRl _ e; omega⟩).mono (fun x hx => ⟨hx.1.1, hx.1.2, hx.lt⟩)
         have hRw3 : RowP (fun x => gb + 1 ≤ x) (W30.alloc (.cells #[.int .i64 3, .int .i64 ((j : Int) + 1), .slice a2 m2 c2] 24 (0, 0))) (gb + 1) v3 l := hRw2.keep (below_alloc W30 (.cells #[.int .i64 3, .int .i64 ((j : Int) + 1), .slice a2 m2 c2] 24 (0, 0))).size (fun x cur hx => (below_alloc W30 (.cells #[.int .i64 3, .int .i64 ((j : Int) + 1), .slice a2 m2 c2] 24 (0, 0))).block x (Array.getElem?_eq_some_iff.1 hx).1)
         have hmA := mop_below (g := g) (below_alloc W30 (.cells #[.int .i64 3, .int .i64 ((j : Int) + 1), .slice a2 m2 c2] 24 (0, 0)))
         have hP3 := zH (h2.below (below_alloc W30 (.cells #[.int .i64 3, .int .i64 ((j : Int) + 1), .slice a2 m2 c2] 24 (0, 0))))
         have hM3 := zH (hM.trans hmA)
         have hN3 := hN2.mop h2 hmA
         have hz32 : gb + 1 ≤ (W30.alloc (.cells #[.int .i64 3, .int .i64 ((j : Int) + 1), .slice a2 m2 c2] 24 (0, 0))).heap.size := by simp; omega
         clear hs h2 hm hM hRw hRw2 hP hN hN2 hmA
         obtain ⟨gl2, hgl2⟩ : ∃ x, W30.heap.size = x := ⟨_, rfl⟩
         obtain ⟨WA, hq_WA⟩ : ∃ x, W30.alloc (.cells #[.int .i64 3, .int .i64 ((j : Int) + 1), .slice a2 m2 c2] 24 (0, 0)) = x := ⟨_, rfl⟩
         rw [hq_WA] at hL2 hRw3 hP3 hM3 hN3 hz32
         rw [hgl2] at hL2
         replace hL2 := zH hL2
         replace hRw3 := zH hRw3
         replace hN3 := zH hN3
         have hE' := zH hE
         go_wp2_with (at_builtin; refine wpList_append_rowP rfl (.tmp 15) (.tmp 18) rfl rfl (uH hRw3) rfl (uH hL2) (by omega) hz32 ?_)
         intro v4 W40 hR4 hb4 hg4 hl4
         have hzg := hb4.size
         have hbm := hb4.mono (show w.heap.size ≤ gb + 1 by omega)
         have hP := zH ((uH hP3).belowB (uH h) hbm)
         have hM := zH (mop_belowB (uH h) hbm (by omega) (uH hM3))
         have hN := zH ((uH hN3).same (hb4.block _ (by omega)))
         have hRw := zH hR4
         clear hb4 hg4 hl4 hL2 hRw3 hP3 hM3 hN3 hq_WA hgl2 hR4 hbm
         go_wp2_with fail
         refine (paEnd_yes (uH hP) hk6).mono ?_
         rintro e W41 ⟨rfl, h2, hm⟩
         replace hN := zH ((uH hN).mop (uH hP) hm)
         replace hRw := zH ((uH hRw).mop (uH hP) hm)
         have hzz := hm.size
         replace hM := zH ((uH hM).trans hm)
         replace hP := zH h2
         clear hm h2
         have hX := zH (And.intro (uH hRw) (And.intro (uH hP) (And.intro (uH hM) (uH hN))))
         clear hE
         go_wp2
         go_roundg g'
         case measure => omega
         case rel => exact ⟨_, _, _, rfl, (uH hX).1, (uH hX).2.1, (uH hX).2.2.1, (uH hX).2.2.2, uH hE', by rw [F.len_app]; simp only [F.len]; omega, by omega⟩
      | false =>
       simp only [ho, Bool.false_eq_true, if_false] at hE
       subst hE
       simp only [PR.bind] at hne
       obtain ⟨R2, hR2⟩ : ∃ R2, dcsA L f l j = R2 := ⟨_, rfl⟩
       go_wp2_with fail
       refine (paKey_any _ _).mono ?_
       rintro e W20 ⟨rfl, hb⟩
       have h2 := (uH hP).below hb
       have hm := mop_below (g := g) hb
       clear hb
       replace hN := zH ((uH hN).mop (uH hP) hm)
       replace hRw := zH ((uH hRw).mop (uH hP) hm)
       have hzz := hm.size
       replace hM := zH ((uH hM).trans hm)
       replace hP := zH h2
       clear hm h2
       go_wp2_with fail
       refine (paTake_no (uH hP) (keyT [105, 109, 112, 111, 114, 116]) (by rw [eqB_key]; exact ho)).mono ?_
       rintro e W21 ⟨rfl, h2, hm⟩
       replace hN := zH ((uH hN).mop (uH hP) hm)
       replace hRw := zH ((uH hRw).mop (uH hP) hm)
       have hzz := hm.size
       replace hM := zH ((uH hM).trans hm)
       replace hP := zH h2
       clear hm h2
       go_upto_region 7 with fail
       rw [hR2] at hne
       have e1 := uH hE0
       rw [hR2] at e1
       replace hE0 := zH e1
       clear e1
       replace hR2 := zH hR2
       go_loopg [3] f (fun gf s3 wx => ∃ (v3 : Value) (l : F) (j : Nat), v3 = s3 ∧ RowP (fun x => gb + 1 ≤ x) wx (gb + 1) s3 l ∧ PaW g (.slice ta L.length tc) L j 0 wx ∧ MoP g w wx ∧ NBlk wx gb 0 0 none 0 0 ∧ dcsA L gf l j = R2 ∧ l.len + gf ≤ f + f + 1 ∧ gf ≤ f)
       case atStart => exact ⟨_, _, _, rfl, uH hRw, uH hP, uH hM, uH hN, uH hR2, by omega, Nat.le_refl _⟩
       case round =>
        clear hRw hP hM hN hNl
        obtain ⟨v3, l, j, rfl, hRw, hP, hM, hN, hE, hlf, hgf⟩ := hrel
        cases gk with
        | zero =>
         unfold dcsA at hE
         rw [← hE] at hne
         exact absurd rfl hne
        | succ g' =>
         unfold dcsA at hE
         replace hRw := zH hRw
         have hNl := hN.lt
         replace hP := zH hP
         replace hM := zH hM
         replace hN := zH hN
         cases ho : knd L j 7 with
         | false =>
          simp only [ho, Bool.false_eq_true, if_false] at hE
          have hne1 : decA L g' j ≠ .out := fun e => hne (by rw [← hE, e]; rfl)
          have hH := zH (fun w h => paDecl_any (g := g) (tv := .slice ta L.length tc) (L := L) (w := w) (i := j) h (f := g') (by omega) hne1)
          cases hr : decA L g' j with
          | out => exact absurd hr hne1
          | bad j2 =>
           rw [hr] at hE hH
           simp only [PR.bind] at hE
           subst hE
           have e0 := uH hE0
           clear hE0 hne
           dsimp only at e0
           subst e0
           go_wp2_with fail
           have hK := paIsKind_any (uH hP) 7
           rw [ho] at hK
           refine (hK).mono ?_
           rintro e W20 ⟨rfl, hb⟩
           have h2 := (uH hP).below hb
           have hm := mop_below (g := g) hb
           clear hb
           replace hN := zH ((uH hN).mop (uH hP) hm)
           replace hRw := zH ((uH hRw).mop (uH hP) hm)
           have hzz := hm.size
           replace hM := zH ((uH hM).trans hm)
           replace hP := zH h2
           clear hm h2
           go_wp2_with fail
           refine (uH hH _ (uH hP)).mono ?_
           rintro e W21 hBad
           obtain rfl := hBad.1
           have hG := zH (hBad.pre (uH hM))
           clear hBad
           go_wp2
           exact ⟨rfl, uH hG⟩
          | ok n j2 =>
           obtain ⟨nk, nt, nc⟩ := n
           rw [hr] at hE hH
           simp only [PR.bind, snoc, one] at hE
           cases hk6 : knd L j2 6 with
           | false =>
            simp only [endA, wantA, hk6, Bool.false_eq_true, if_false] at hE
            subst hE
            have e0 := uH hE0
            clear hE0 hne
            dsimp only at e0
            subst e0
            go_wp2_with fail
            have hK := paIsKind_any (uH hP) 7
            rw [ho] at hK
            refine (hK).mono ?_
            rintro e W20 ⟨rfl, hb⟩
            have h2 := (uH hP).below hb
            have hm := mop_below (g := g) hb
            clear hb
            replace hN := zH ((uH hN).mop (uH hP) hm)
            replace hRw := zH ((uH hRw).mop (uH hP) hm)
            have hzz := hm.size
            replace hM := zH ((uH hM).trans hm)
            replace hP := zH h2
            clear hm h2
            go_wp2_with fail
            refine (uH hH _ (uH hP)).mono ?_
            rintro e W30 ⟨a2, m2, c2, rfl, hs, h2, hm⟩
            dsimp only at hs
            have hRl := (uH hRw).lt
            have hRw2 := (uH hRw).mop (uH hP) hm
            have hN2 := (uH hN).mop (uH hP) hm
            have hgs := (uH hM).size
            replace hM := (uH hM).trans hm
            have hzs := hm.size
            have hL2 : SlQ (fun x => gb + 1 ≤ x ∧ v3.ownBlock ≠ some x ∧ x < (W30.alloc (.cells #[.int .i64 nk, .int .i64 nt, .slice a2 m2 c2] 24 (0, 0))).heap.size) (W30.alloc (.cells #[.int .i64 nk, .int .i64 nt, .slice a2 m2 c2] 24 (0, 0))) (some ⟨W30.heap.size, 0, none⟩) 1 1 (.cons nk nt nc .nil) :=
             (lit1_sl (P := fun x => gb + 1 ≤ x ∧ v3.ownBlock ≠ some x) W30 nk nt a2 m2 c2 nc (hs.mono (fun x hx => ⟨by have e1 := hx.1; omega, fun e => by have := hRl x e; have e1 := hx.1; omega⟩)) ⟨by omega, fun e => by have := hRl _ e; omega⟩).mono (fun x hx => ⟨hx.1.1, hx.1.2, hx.lt⟩)
            have hRw3 : RowP (fun x => gb + 1 ≤ x) (W30.alloc (.cells #[.int .i64 nk, .int .i64 nt, .slice a2 m2 c2] 24 (0, 0))) (gb + 1) v3 l := hRw2.keep (below_alloc W30 (.cells #[.int .i64 nk, .int .i64 nt, .slice a2 m2 c2] 24 (0, 0))).size (fun x cur hx => (below_alloc W30 (.cells #[.int .i64 nk, .int .i64 nt, .slice a2 m2 c2] 24 (0, 0))).block x (Array.getElem?_eq_some_iff.1 hx).1)
            have hmA := mop_below (g := g) (below_alloc W30 (.cells #[.int .i64 nk, .int .i64 nt, .slice a2 m2 c2] 24 (0, 0)))
            have hP3 := zH (h2.below (below_alloc W30 (.cells #[.int .i64 nk, .int .i64 nt, .slice a2 m2 c2] 24 (0, 0))))
            have hM3 := zH (hM.trans hmA)
            have hN3 := hN2.mop h2 hmA
            have hz32 : gb + 1 ≤ (W30.alloc (.cells #[.int .i64 nk, .int .i64 nt, .slice a2 m2 c2] 24 (0, 0))).heap.size := by simp; omega
            clear hs h2 hm hM hRw hRw2 hP hN hN2 hmA
            obtain ⟨gl2, hgl2⟩ : ∃ x, W30.heap.size = x := ⟨_, rfl⟩
            obtain ⟨WA, hq_WA⟩ : ∃ x, W30.alloc (.cells #[.int .i64 nk, .int .i64 nt, .slice a2 m2 c2] 24 (0, 0)) = x := ⟨_, rfl⟩
            rw [hq_WA] at hL2 hRw3 hP3 hM3 hN3 hz32
            rw [hgl2] at hL2
            replace hL2 := zH hL2
            replace hRw3 := zH hRw3
            replace hN3 := zH hN3
            go_wp2_with (at_builtin; refine wpList_append_rowP rfl (.tmp 25) (.tmp 28) rfl rfl (uH hRw3) rfl (uH hL2) (by omega) hz32 ?_)
            intro v4 W40 hR4 hb4 hg4 hl4
            have hzg := hb4.size
            have hbm := hb4.mono (show w.heap.size ≤ gb + 1 by omega)
            have hP := zH ((uH hP3).belowB (uH h) hbm)
            have hM := zH (mop_belowB (uH h) hbm (by omega) (uH hM3))
            have hN := zH ((uH hN3).same (hb4.block _ (by omega)))
            have hRw := zH hR4
            clear hb4 hg4 hl4 hL2 hRw3 hP3 hM3 hN3 hq_WA hgl2 hR4 hbm
            go_wp2_with fail
            refine (paEnd_no (uH hP) hk6).mono ?_
            rintro e W41 hBad
            obtain rfl := hBad.1
            have hG := zH (hBad.pre (uH hM))
            clear hBad
            go_wp2
            exact ⟨rfl, uH hG⟩
           | true =>
            simp only [endA, wantA, hk6, if_true] at hE
            go_wp2_with fail
            have hK := paIsKind_any (uH hP) 7
            rw [ho] at hK
            refine (hK).mono ?_
            rintro e W20 ⟨rfl, hb⟩
            have h2 := (uH hP).below hb
            have hm := mop_below (g := g) hb
            clear hb
            replace hN := zH ((uH hN).mop (uH hP) hm)
            replace hRw := zH ((uH hRw).mop (uH hP) hm)
            have hzz := hm.size
            replace hM := zH ((uH hM).trans hm)
            replace hP := zH h2
            clear hm h2
            go_wp2_with fail
            refine (uH hH _ (uH hP)).mono ?_
            rintro e W30 ⟨a2, m2, c2, rfl, hs, h2, hm⟩
            dsimp only at hs
            have hRl := (uH hRw).lt
            have hRw2 := (uH hRw).mop (uH hP) hm
            have hN2 := (uH hN).mop (uH hP) hm
            have hgs := (uH hM).size
            replace hM := (uH hM).trans hm
            have hzs := hm.size
            have hL2 : SlQ (fun x => gb + 1 ≤ x ∧ v3.ownBlock ≠ some x ∧ x < (W30.alloc (.cells #[.int .i64 nk, .int .i64 nt, .slice a2 m2 c2] 24 (0, 0))).heap.size) (W30.alloc (.cells #[.int .i64 nk, .int .i64 nt, .slice a2 m2 c2] 24 (0, 0))) (some ⟨W30.heap.size, 0, none⟩) 1 1 (.cons nk nt nc .nil) :=
             (lit1_sl (P := fun x => gb + 1 ≤ x ∧ v3.ownBlock ≠ some x) W30 nk nt a2 m2 c2 nc (hs.mono (fun x hx => ⟨by have e1 := hx.1; omega, fun e => by have := hRl x e; have e1 := hx.1; omega⟩)) ⟨by omega, fun e => by have := hRl _ e; omega⟩).mono (fun x hx => ⟨hx.1.1, hx.1.2, hx.lt⟩)
            have hRw3 : RowP (fun x => gb + 1 ≤ x) (W30.alloc (.cells #[.int .i64 nk, .int .i64 nt, .slice a2 m2 c2] 24 (0, 0))) (gb + 1) v3 l := hRw2.keep (below_alloc W30 (.cells #[.int .i64 nk, .int .i64 nt, .slice a2 m2 c2] 24 (0, 0))).size (fun x cur hx => (below_alloc W30 (.cells #[.int .i64 nk, .int .i64 nt, .slice a2 m2 c2] 24 (0, 0))).block x (Array.getElem?_eq_some_iff.1 hx).1)
            have hmA := mop_below (g := g) (below_alloc W30 (.cells #[.int .i64 nk, .int .i64 nt, .slice a2 m2 c2] 24 (0, 0)))
            have hP3 := zH (h2.below (below_alloc W30 (.cells #[.int .i64 nk, .int .i64 nt, .slice a2 m2 c2] 24 (0, 0))))
            have hM3 := zH (hM.trans hmA)
            have hN3 := hN2.mop h2 hmA
            have hz32 : gb + 1 ≤ (W30.alloc (.cells #[.int .i64 nk, .int .i64 nt, .slice a2 m2 c2] 24 (0, 0))).heap.size := by simp; omega
            clear hs h2 hm hM hRw hRw2 hP hN hN2 hmA
            obtain ⟨gl2, hgl2⟩ : ∃ x, W30.heap.size = x := ⟨_, rfl⟩
            obtain ⟨WA, hq_WA⟩ : ∃ x, W30.alloc (.cells #[.int .i64 nk, .int .i64 nt, .slice a2 m2 c2] 24 (0, 0)) = x := ⟨_, rfl⟩
            rw [hq_WA] at hL2 hRw3 hP3 hM3 hN3 hz32
            rw [hgl2] at hL2
            replace hL2 := zH hL2
            replace hRw3 := zH hRw3
            replace hN3 := zH hN3
            have hE' := zH hE
            go_wp2_with (at_builtin; refine wpList_append_rowP rfl (.tmp 25) (.tmp 28) rfl rfl (uH hRw3) rfl (uH hL2) (by omega) hz32 ?_)
            intro v4 W40 hR4 hb4 hg4 hl4
            have hzg := hb4.size
            have hbm := hb4.mono (show w.heap.size ≤ gb + 1 by omega)
            have hP := zH ((uH hP3).belowB (uH h) hbm)
            have hM := zH (mop_belowB (uH h) hbm (by omega) (uH hM3))
            have hN := zH ((uH hN3).same (hb4.block _ (by omega)))
            have hRw := zH hR4
            clear hb4 hg4 hl4 hL2 hRw3 hP3 hM3 hN3 hq_WA hgl2 hR4 hbm
            go_wp2_with fail
            refine (paEnd_yes (uH hP) hk6).mono ?_
            rintro e W41 ⟨rfl, h2, hm⟩
            replace hN := zH ((uH hN).mop (uH hP) hm)
            replace hRw := zH ((uH hRw).mop (uH hP) hm)
            have hzz := hm.size
            replace hM := zH ((uH hM).trans hm)
            replace hP := zH h2
            clear hm h2
            have hX := zH (And.intro (uH hRw) (And.intro (uH hP) (And.intro (uH hM) (uH hN))))
            clear hE
            go_wp2
            go_roundg g'
            case measure => omega
            case rel => exact ⟨_, _, _, rfl, (uH hX).1, (uH hX).2.1, (uH hX).2.2.1, (uH hX).2.2.2, uH hE', by rw [F.len_app]; simp only [F.len]; omega, by omega⟩
         | true =>
          simp only [ho, if_true] at hE
          subst hE
          simp only [PR.bind] at hne
          by_cases hlt : L.length ≤ j + 1
          ·
           simp only [hlt, wantA, decide_true, if_true] at hne
           have e0 := uH hE0
           simp only [hlt, wantA, decide_true, if_true] at e0
           clear hE0
           subst e0
           go_wp2_with fail
           have hK := paIsKind_any (uH hP) 7
           rw [ho] at hK
           refine (hK).mono ?_
           rintro e W20 ⟨rfl, hb⟩
           have h2 := (uH hP).below hb
           have hm := mop_below (g := g) hb
           clear hb
           replace hN := zH ((uH hN).mop (uH hP) hm)
           replace hRw := zH ((uH hRw).mop (uH hP) hm)
           have hzz := hm.size
           replace hM := zH ((uH hM).trans hm)
           replace hP := zH h2
           clear hm h2
           go_wp2_with fail
           refine (paWantKind_yes (uH hP) 7 ho (by decide)).mono ?_
           rintro e W21 ⟨rfl, h2, hm⟩
           replace hN := zH ((uH hN).mop (uH hP) hm)
           replace hRw := zH ((uH hRw).mop (uH hP) hm)
           have hzz := hm.size
           replace hM := zH ((uH hM).trans hm)
           replace hP := zH h2
           clear hm h2
           go_wp2_with fail
           have hb : Below W21.heap.size W21 (World.drew W21) := (Below.refl _ _).drew
           have h2 := (uH hP).below hb
           have hm := mop_below (g := g) hb
           clear hb
           obtain ⟨WD, hq_WD⟩ : ∃ x, World.drew W21 = x := ⟨_, rfl⟩
           rw [hq_WD] at h2 hm
           replace hN := zH ((uH hN).mop (uH hP) hm)
           replace hRw := zH ((uH hRw).mop (uH hP) hm)
           have hzz := hm.size
           replace hM := zH ((uH hM).trans hm)
           replace hP := zH h2
           clear hm h2
           have c0 := (uH hP).c0
           have c1 := (uH hP).c1
           have f0 := (uH hP).fr 0
           have f1 := (uH hP).fr 1
           have hlt2 : ¬ (j : Int) + 1 < (L.length : Int) := by omega
           go_region
           clear c0 c1 f0 f1
           obtain ⟨av, cv, rfl, _⟩ := (uH hRw).sl (fun _ h => h)
           have hR := zH ((uH hRw).mono (P' := fun x => gb < x) (fun x hx _ => hx))
           clear hRw
           obtain ⟨p0_hN, p1_hN, p2_hN⟩ := (uH hN).box
           have f0_hN := (uH hN).frozen 0
           have f1_hN := (uH hN).frozen 1
           have f2_hN := (uH hN).frozen 2
           have hF := zH (res_finR (k := 1) (t := 0) (w := w) (gb := gb) (by omega) (uH hN) (uH hR) (fun x hx => hx) (uH hP) (uH hM))
           go_wp2
           obtain ⟨q1, q2, q3, q4⟩ := uH hF
           obtain ⟨u0, u1, u2⟩ := q1.box
           refine bodyPost_ret (v := .agg #[.int .i64 (1), .int .i64 (0), .slice (av) (l.len) (cv)]) (by simp [results, Tryz.results40, go_sem, u0, u1, u2]) rfl ?_
           exact ResR.n (r := .ok ⟨1, 0, l⟩ (j + 1)) ⟨_, _, _, rfl, (by first | exact q2 | (rw [hgb]; exact q2) | exact (q2.mono (fun y hy _ => by omega)).base (fun y hy => by have := q2.lt y hy; omega)), q3, q4⟩
          ·
           have e0 := uH hE0
           simp only [hlt, wantA, decide_false, Bool.false_eq_true, if_false] at e0
           clear hE0 hne
           subst e0
           go_wp2_with fail
           have hK := paIsKind_any (uH hP) 7
           rw [ho] at hK
           refine (hK).mono ?_
           rintro e W20 ⟨rfl, hb⟩
           have h2 := (uH hP).below hb
           have hm := mop_below (g := g) hb
           clear hb
           replace hN := zH ((uH hN).mop (uH hP) hm)
           replace hRw := zH ((uH hRw).mop (uH hP) hm)
           have hzz := hm.size
           replace hM := zH ((uH hM).trans hm)
           replace hP := zH h2
           clear hm h2
           go_wp2_with fail
           refine (paWantKind_yes (uH hP) 7 ho (by decide)).mono ?_
           rintro e W21 ⟨rfl, h2, hm⟩
           replace hN := zH ((uH hN).mop (uH hP) hm)
           replace hRw := zH ((uH hRw).mop (uH hP) hm)
           have hzz := hm.size
           replace hM := zH ((uH hM).trans hm)
           replace hP := zH h2
           clear hm h2
           go_wp2_with fail
           have hb : Below W21.heap.size W21 (World.drew W21) := (Below.refl _ _).drew
           have h2 := (uH hP).below hb
           have hm := mop_below (g := g) hb
           clear hb
           obtain ⟨WD, hq_WD⟩ : ∃ x, World.drew W21 = x := ⟨_, rfl⟩
           rw [hq_WD] at h2 hm
           replace hN := zH ((uH hN).mop (uH hP) hm)
           replace hRw := zH ((uH hRw).mop (uH hP) hm)
           have hzz := hm.size
           replace hM := zH ((uH hM).trans hm)
           replace hP := zH h2
           clear hm h2
           have c0 := (uH hP).c0
           have c1 := (uH hP).c1
           have f0 := (uH hP).fr 0
           have f1 := (uH hP).fr 1
           have hlt2 : (j : Int) + 1 < (L.length : Int) := by omega
           go_region
           go_wp2_with fail
           clear c0 c1 f0 f1 hlt2
           refine (paFail_any g _).mono ?_
           rintro e W22 ⟨rfl, rfl⟩
           go_wp2
           exact ⟨rfl, rfl, ⟨0, uH hP⟩, uH hM⟩
end Go.Proofs.YtiknnobgoamgcaaGreatDoor
/-
  The parser: what Tokens defers.
-/
namespace Go.Proofs.YtiknnobgoamgcaaGreatDoor
open Go.RowKit Go.Lib Go.Sort
set_option linter.unusedSimpArgs false
set_option linter.unusedVariables false
/-- Nothing panicked: nothing is written. -/
theorem tokCatch_idle (p q r : Addr) (w : World) : CallsD Tryz.prog 39 #[.pointer (some p), .pointer (some q), .pointer (some r)] .returning w fun e u' w' => e = .returned (.tuple #[]) ∧ u' = .returning ∧ w' = w := by
 refine callsD_of_wpS Tryz.func39 rfl fun c₀ cs hu => ?_
 apply wpS_seq
 apply wpS_region
 simp [wpOpsS, go_sem, recoverD, hu, Tryz.ntmps39, Exit.thenS]
 refine wpS_cond (t := false) (by simp [Act.eval, Array.replicate]) ?_
 simp only [Bool.false_eq_true, if_false]
 refine wpS_of_wp (wp_skip ?_)
 cases c₀
 simp_all [bodyPostS, results, Tryz.results39]
/-- A panic is recovered: the zero node, and where the parser stood. -/
theorem tokCatch_panic (g gt gf : Nat) (i : Int) (k t x : Int) (a : Option Addr) (n c : Nat) (w : World) (hi : w.cell? ⟨g, 1, none⟩ = some (.int .i64 i)) (hN : NBlk w gt k t a n c) (hx : w.cell? ⟨gf, 0, none⟩ = some (.int .i64 x)) (hz : w.frozen? ⟨gf, 0, none⟩ = false) (hne : gf ≠ gt) :
  CallsD Tryz.prog 39 #[.pointer (some ⟨g, 0, none⟩), .pointer (some ⟨gt, 0, none⟩), .pointer (some ⟨gf, 0, none⟩)] (.panicking PC) w fun e u' w' => e = .returned (.tuple #[]) ∧ u' = .panicking [{ v := .iface 9 (.string ⟨#[112, 97, 114, 115, 101, 58, 32, 97, 32, 116, 111, 107, 101, 110, 32, 105, 115, 32, 97, 116, 32, 102, 97, 117, 108, 116]⟩), recovered := true }] ∧
   w' = (((w.setCell ⟨gt, 0, none⟩ (.int .i64 0)).setCell ⟨gt, 1, none⟩ (.int .i64 0)).setCell ⟨gt, 2, none⟩ (.slice none 0 0)).setCell ⟨gf, 0, none⟩ (.int .i64 i) := by
 obtain ⟨c0, c1, c2⟩ := hN.box
 have f0 := hN.frozen 0
 have f1 := hN.frozen 1
 have f2 := hN.frozen 2
 refine callsD_of_wpS Tryz.func39 rfl fun c₀ cs hu => ?_
 apply wpS_seq
 apply wpS_region
 simp [wpOpsS, go_sem, recoverD, hu, PC, Tryz.ntmps39, Exit.thenS]
 refine wpS_cond (t := true) (by simp [Act.eval, Array.replicate]) ?_
 simp only [if_true]
 apply wpS_region
 simp [wpOpsS, go_sem, hi, c0, c1, c2, f0, f1, f2, hx, hz, bodyPostS, results, Tryz.results39]
end Go.Proofs.YtiknnobgoamgcaaGreatDoor
/-
  The parser: Tokens.
-/
namespace Go.Proofs.YtiknnobgoamgcaaGreatDoor
open Go.RowKit Go.Lib Go.Sort
set_option linter.unusedSimpArgs false
set_option linter.unusedVariables false
/-- What Tokens answers: the tree; or no tree, and the token at fault. -/
def ResT (w : World) (r : PR Nd) (e : Ending) (w' : World) : Prop := match r with
 | .out => False
 | .bad j => e = .returned (.tuple #[.agg #[.int .i64 0, .int .i64 0, .slice none 0 0], .int .i64 j]) ∧ Below w.heap.size w w'
 | .ok n _ => ∃ (a : Option Addr) (m c : Nat), e = .returned (.tuple #[.agg #[.int .i64 n.k, .int .i64 n.t, .slice a m c], .int .i64 (-1)]) ∧ SlQ (fun x => w.heap.size ≤ x) w' a m c n.c ∧ Below w.heap.size w w'
/-- One cell of a number. -/
theorem cellI_new (w : World) (x : Int) : (w.alloc (.cells #[.int .i64 x] 3 (0, 0))).heap[w.heap.size]? = some (.cells #[.int .i64 x] 3 (0, 0)) := heap_alloc_new w _
set_option maxHeartbeats 4000000 in
set_option maxRecDepth 100000 in
theorem paTokens_any {ta : Option Addr} {tc : Nat} {L : List Tk} {w : World} (hT : Toks w (.slice ta L.length tc) L) (h0 : 0 < L.length) (hL : L.length ≤ 1000000) {f : Nat} (hf : f ≤ 900000) (hne : filA L f ≠ .out) : Calls Tryz.prog 26 #[.slice ta L.length tc] w fun e w' => ResT w (filA L f) e w' := by
 have hmf : ∀ (fn : Fn) (first cap : Array Value) (w : World), (Instr.makeFunc fn first cap).run Tryz.prog w = .ok (.func fn first cap) w := fun _ _ _ _ => rfl
 rw [← filG_zero] at hne ⊢
 obtain ⟨W1, hW1⟩ : ∃ W1, ((w.alloc (.cells #[.int .i64 0, .int .i64 0, .slice none 0 0] 24 (0, 0))).alloc (.cells #[.int .i64 0] 3 (0, 0))).alloc (.cells #[.slice ta L.length tc, .int .i64 0, .int .i64 0] 73 (0, 0)) = W1 := ⟨_, rfl⟩
 have hb1 := below_alloc w (.cells #[.int .i64 0, .int .i64 0, .slice none 0 0] 24 (0, 0))
 have hb2 := below_alloc (w.alloc (.cells #[.int .i64 0, .int .i64 0, .slice none 0 0] 24 (0, 0))) (.cells #[.int .i64 0] 3 (0, 0))
 have hb3 := below_alloc ((w.alloc (.cells #[.int .i64 0, .int .i64 0, .slice none 0 0] 24 (0, 0))).alloc (.cells #[.int .i64 0] 3 (0, 0))) (.cells #[.slice ta L.length tc, .int .i64 0, .int .i64 0] 73 (0, 0))
 have hN := nblk_new w 0 0 none 0 0
 have hI := cellI_new (w.alloc (.cells #[.int .i64 0, .int .i64 0, .slice none 0 0] 24 (0, 0))) 0
 have hS := heap_alloc_new ((w.alloc (.cells #[.int .i64 0, .int .i64 0, .slice none 0 0] 24 (0, 0))).alloc (.cells #[.int .i64 0] 3 (0, 0))) (.cells #[.slice ta L.length tc, .int .i64 0, .int .i64 0] 73 (0, 0))
 have z1 : (w.alloc (.cells #[.int .i64 0, .int .i64 0, .slice none 0 0] 24 (0, 0))).heap.size = w.heap.size + 1 := by simp
 have z2 : ((w.alloc (.cells #[.int .i64 0, .int .i64 0, .slice none 0 0] 24 (0, 0))).alloc (.cells #[.int .i64 0] 3 (0, 0))).heap.size = w.heap.size + 1 + 1 := by simp
 have z3 : W1.heap.size = w.heap.size + 1 + 1 + 1 := by rw [← hW1]; simp
 rw [z1] at hI hb2
 rw [z2] at hS hb3
 rw [hW1] at hS hb3
 replace hN := ((hN.same (hb2.block _ (by omega))).same (hb3.block _ (by omega)))
 replace hI := (hb3.block _ (by omega)).trans hI
 have hB : Below w.heap.size w W1 := (hb1.trans (hb2.mono (by omega))).trans (hb3.mono (by omega))
 have hP : PaW (w.heap.size + 1 + 1) (.slice ta L.length tc) L 0 0 W1 := ⟨hS, hT.below hB, hL, fun x hx => by have := toks_lt hT h0 x hx; omega⟩
 have hC := paFile_any hP hf hne
 clear hb1 hb2 hb3 hS z1 z2 hT
 replace hW1 := zH hW1
 replace hN := zH hN
 replace hI := zH hI
 replace hB := zH hB
 replace hP := zH hP
 replace hC := zH hC
 replace z3 := And.intro (Nat.le_of_eq z3) (Nat.le_of_eq z3.symm)
 generalize hr : filG L f 0 = r at hC hne ⊢
 clear hr
 cases r with
 | out => exact absurd rfl hne
 | bad j =>
  clear hne
  go_enter_defers Tryz.func26, Tryz.ntmps26
  go_wp2_with fail
  rw [uH hW1]
  clear hW1
  refine (uH hC).mono ?_
  rintro e W2 ⟨rfl, ⟨d', h2⟩, hm⟩
  have hN2 := (uH hN).same (hm.block _ (by omega) (show w.heap.size ≠ w.heap.size + 1 + 1 by omega))
  have hI2 := (hm.block (w.heap.size + 1) (by omega) (show w.heap.size + 1 ≠ w.heap.size + 1 + 1 by omega)).trans (uH hI)
  have hc1 := h2.c1
  have hx : W2.cell? ⟨w.heap.size + 1, 0, none⟩ = some (.int .i64 0) := by rw [cell_of_row W2 _ 0 _ _ _ hI2]; rfl
  have hfz : W2.frozen? ⟨w.heap.size + 1, 0, none⟩ = false := Joins.unfrozen_of_block hI2 0
  have hBf : Below w.heap.size w W2 := ⟨hm.os.trans (uH hB).os, hm.tape.trans (uH hB).tape, hm.output.trans (uH hB).output, Nat.le_trans (uH hB).size hm.size, fun x hx => (hm.block x (by omega) (by show x ≠ _; omega)).trans ((uH hB).block x hx)⟩
  have hfin := zH ((((hBf.setCell (p := ⟨w.heap.size, 0, none⟩) (Nat.le_refl _) (.int .i64 0)).setCell (p := ⟨w.heap.size, 1, none⟩) (Nat.le_refl _) (.int .i64 0)).setCell (p := ⟨w.heap.size, 2, none⟩) (Nat.le_refl _) (.slice none 0 0)).setCell (p := ⟨w.heap.size + 1, 0, none⟩) (Nat.le_succ _) (.int .i64 j))
  have hN3 := (hN2.set3 (k' := 0) (t' := 0) (a' := none) (n' := 0) (cap' := 0)).same (Below.heap_setCell _ ⟨w.heap.size + 1, 0, none⟩ (.int .i64 j) w.heap.size (by show w.heap.size ≠ w.heap.size + 1; omega))
  obtain ⟨u0, u1, u2⟩ := hN3.box
  have ux : (((((W2.setCell ⟨w.heap.size, 0, none⟩ (.int .i64 0)).setCell ⟨w.heap.size, 1, none⟩ (.int .i64 0)).setCell ⟨w.heap.size, 2, none⟩ (.slice none 0 0))).setCell ⟨w.heap.size + 1, 0, none⟩ (.int .i64 j)).cell? ⟨w.heap.size + 1, 0, none⟩ = some (.int .i64 j) := by
   refine World.cell?_setCell_same (u := .int .i64 0) _ _ _ ?_
   rw [World.cell?_setCell_other _ _ _ _ (by simp), World.cell?_setCell_other _ _ _ _ (by simp), World.cell?_setCell_other _ _ _ _ (by simp), hx]
  refine leaves_cons (f := 39) (args := #[.pointer (some ⟨w.heap.size + 1 + 1, 0, none⟩), .pointer (some ⟨w.heap.size, 0, none⟩), .pointer (some ⟨w.heap.size + 1, 0, none⟩)]) (by simp) (by simp [go_sem]) ?_
  refine (tokCatch_panic (w.heap.size + 1 + 1) w.heap.size (w.heap.size + 1) j 0 0 0 none 0 0 W2 hc1 hN2 hx hfz (by omega)).mono ?_
  rintro e u' w'' ⟨rfl, rfl, rfl⟩
  refine ⟨.tuple #[.agg #[.int .i64 0, .int .i64 0, .slice none 0 0], .int .i64 j], ?_, rfl, uH hfin⟩
  simp [results, Tryz.results26, go_sem, u0, u1, u2, ux]
 | ok n j =>
  obtain ⟨nk, nt, nc⟩ := n
  clear hne
  go_enter_defers Tryz.func26, Tryz.ntmps26
  go_wp2_with fail
  rw [uH hW1]
  clear hW1
  refine (uH hC).mono ?_
  rintro e W2 ⟨a, m, c, rfl, hs, h2, hm⟩
  dsimp only at hs ⊢
  have hN2 := (uH hN).same (hm.block _ (by omega) (show w.heap.size ≠ w.heap.size + 1 + 1 by omega))
  have hI2 := (hm.block (w.heap.size + 1) (by omega) (show w.heap.size + 1 ≠ w.heap.size + 1 + 1 by omega)).trans (uH hI)
  have hx : W2.cell? ⟨w.heap.size + 1, 0, none⟩ = some (.int .i64 0) := by rw [cell_of_row W2 _ 0 _ _ _ hI2]; rfl
  have hfz : W2.frozen? ⟨w.heap.size + 1, 0, none⟩ = false := Joins.unfrozen_of_block hI2 0
  have hBf : Below w.heap.size w W2 := ⟨hm.os.trans (uH hB).os, hm.tape.trans (uH hB).tape, hm.output.trans (uH hB).output, Nat.le_trans (uH hB).size hm.size, fun x hx => (hm.block x (by omega) (by show x ≠ _; omega)).trans ((uH hB).block x hx)⟩
  have hfin := zH ((((hBf.setCell (p := ⟨w.heap.size, 0, none⟩) (Nat.le_refl _) (.int .i64 nk)).setCell (p := ⟨w.heap.size, 1, none⟩) (Nat.le_refl _) (.int .i64 nt)).setCell (p := ⟨w.heap.size, 2, none⟩) (Nat.le_refl _) (.slice a m c)).setCell (p := ⟨w.heap.size + 1, 0, none⟩) (Nat.le_succ _) (.int .i64 (-1)))
  have hN3 := (hN2.set3 (k' := nk) (t' := nt) (a' := a) (n' := m) (cap' := c)).same (Below.heap_setCell _ ⟨w.heap.size + 1, 0, none⟩ (.int .i64 (-1)) w.heap.size (by show w.heap.size ≠ w.heap.size + 1; omega))
  have hs3 := zH ((hs.mono (P' := fun x => W1.heap.size ≤ x) (fun x hx => hx.1)).keep (w' := ((((W2.setCell ⟨w.heap.size, 0, none⟩ (.int .i64 nk)).setCell ⟨w.heap.size, 1, none⟩ (.int .i64 nt)).setCell ⟨w.heap.size, 2, none⟩ (.slice a m c))).setCell ⟨w.heap.size + 1, 0, none⟩ (.int .i64 (-1))) (fun x hx => by
   have hx1 := hx.1
   rw [Below.heap_setCell _ _ _ x (by show x ≠ w.heap.size + 1; omega), Below.heap_setCell _ _ _ x (by show x ≠ w.heap.size; omega), Below.heap_setCell _ _ _ x (by show x ≠ w.heap.size; omega), Below.heap_setCell _ _ _ x (by show x ≠ w.heap.size; omega)]))
  obtain ⟨u0, u1, u2⟩ := hN3.box
  have ux : (((((W2.setCell ⟨w.heap.size, 0, none⟩ (.int .i64 nk)).setCell ⟨w.heap.size, 1, none⟩ (.int .i64 nt)).setCell ⟨w.heap.size, 2, none⟩ (.slice a m c))).setCell ⟨w.heap.size + 1, 0, none⟩ (.int .i64 (-1))).cell? ⟨w.heap.size + 1, 0, none⟩ = some (.int .i64 (-1)) := by
   refine World.cell?_setCell_same (u := .int .i64 0) _ _ _ ?_
   rw [World.cell?_setCell_other _ _ _ _ (by simp), World.cell?_setCell_other _ _ _ _ (by simp), World.cell?_setCell_other _ _ _ _ (by simp), hx]
  replace u0 := zH u0
  replace u1 := zH u1
  replace u2 := zH u2
  replace ux := zH ux
  have f0 := hN2.frozen 0
  have f1 := hN2.frozen 1
  have f2 := hN2.frozen 2
  obtain ⟨p0, p1, p2⟩ := hN2.box
  clear hN hI hB hP hC hN2 hI2 hN3 hs h2 hm hBf
  go_wp2
  refine leaves_cons (f := 39) (args := #[.pointer (some ⟨w.heap.size + 1 + 1, 0, none⟩), .pointer (some ⟨w.heap.size, 0, none⟩), .pointer (some ⟨w.heap.size + 1, 0, none⟩)]) (by simp) (by simp [go_sem]) ?_
  refine (tokCatch_idle ⟨w.heap.size + 1 + 1, 0, none⟩ ⟨w.heap.size, 0, none⟩ ⟨w.heap.size + 1, 0, none⟩ _).mono ?_
  rintro e u' w'' ⟨rfl, rfl, rfl⟩
  refine ⟨.tuple #[.agg #[.int .i64 nk, .int .i64 nt, .slice a m c], .int .i64 (-1)], ?_, a, m, c, rfl, (uH hs3).mono (fun x hx => by have := hx.1; omega), uH hfin⟩
  simp [results, Tryz.results26, go_sem, uH u0, uH u1, uH u2, uH ux]
end Go.Proofs.YtiknnobgoamgcaaGreatDoor
/-
  A text's bytes, one by one. No program.
-/
namespace Go.Proofs.YtiknnobgoamgcaaGreatDoor
def byteAt (s : ByteArray) (i : Nat) : Nat := (s.get! i).toNat
theorem byteAt_lt (s : ByteArray) (i : Nat) : byteAt s i < 256 := UInt8.toNat_lt _
theorem byteAt_eq (s : ByteArray) (i : Nat) : byteAt s i = (s.data[i]?.getD 0).toNat := by
 cases s with
 | mk d =>
  unfold byteAt ByteArray.get!
  by_cases h : i < d.size
  ·
   simp [h]
  ·
   simp [h]; rfl
theorem byteAt_idx (s : ByteArray) (i : Nat) (h : i < s.size) : (s[i]'h).toNat = byteAt s i := by
 rw [byteAt_eq]
 have h' : i < s.data.size := h
 rw [Array.getElem?_eq_getElem h']
 rfl
theorem byteAt_extract (s : ByteArray) (a i : Nat) : byteAt (s.extract a s.size) i = byteAt s (a + i) := by
 rw [byteAt_eq, byteAt_eq, ByteArray.data_extract, Array.getElem?_extract]
 have e : s.size = s.data.size := rfl
 rw [e, Nat.min_self]
 split
 ·
  rfl
 ·
  rw [Array.getElem?_eq_none (by omega)]
theorem byteAt_left (a b : ByteArray) (i : Nat) (h : i < a.size) : byteAt (a ++ b) i = byteAt a i := by
 rw [byteAt_eq, byteAt_eq, ByteArray.data_append, Array.getElem?_append_left h]
theorem byteAt_right (a b : ByteArray) (i : Nat) : byteAt (a ++ b) (a.size + i) = byteAt b i := by
 rw [byteAt_eq, byteAt_eq, ByteArray.data_append]
 have e : a.size = a.data.size := rfl
 rw [e, Array.getElem?_append_right (by omega), Nat.add_sub_cancel_left]
end Go.Proofs.YtiknnobgoamgcaaGreatDoor
/-
  Names: which bytes make one, which words are keys, the world's. No program.
-/
namespace Go.Proofs.YtiknnobgoamgcaaGreatDoor
def lowB (c : Nat) : Bool := decide (97 ≤ c) && decide (c ≤ 122)
def digB (c : Nat) : Bool := decide (48 ≤ c) && decide (c ≤ 57)
def letB (c : Nat) : Bool := decide (c = 95) || lowB c || (decide (65 ≤ c) && decide (c ≤ 90))
def wordB (c : Nat) : Bool := letB c || digB c
def fileB (c : Nat) : Bool := lowB c || digB c || decide (c = 46) || decide (c = 45) || decide (c = 95)
/-- Every byte is such a one. -/
def allB (p : Nat → Bool) (s : ByteArray) : Bool := (List.range s.size).all fun i => p (byteAt s i)
theorem allB_true {p : Nat → Bool} {s : ByteArray} (h : ∀ i, i < s.size → p (byteAt s i) = true) : allB p s = true := by
 rw [allB, List.all_eq_true]
 intro i hi
 exact h i (List.mem_range.1 hi)
theorem allB_false {p : Nat → Bool} {s : ByteArray} (i : Nat) (hi : i < s.size) (h : p (byteAt s i) = false) : allB p s = false := by
 rw [allB, List.all_eq_false]
 exact ⟨i, List.mem_range.2 hi, by rw [h]; decide⟩
def keysB : List ByteArray := [⟨#[112, 97, 99, 107, 97, 103, 101]⟩, ⟨#[105, 109, 112, 111, 114, 116]⟩, ⟨#[118, 97, 114]⟩, ⟨#[99, 111, 110, 115, 116]⟩, ⟨#[116, 121, 112, 101]⟩, ⟨#[115, 116, 114, 117, 99, 116]⟩, ⟨#[102, 117, 110, 99]⟩, ⟨#[105, 102]⟩, ⟨#[101, 108, 115, 101]⟩, ⟨#[102, 111, 114]⟩, ⟨#[114, 101, 116, 117, 114, 110]⟩, ⟨#[98, 114, 101, 97, 107]⟩, ⟨#[99, 111, 110, 116, 105, 110, 117, 101]⟩]
def worldB : List ByteArray := [⟨#[105, 110, 116]⟩, ⟨#[115, 116, 114, 105, 110, 103]⟩, ⟨#[98, 111, 111, 108]⟩, ⟨#[116, 114, 117, 101]⟩, ⟨#[102, 97, 108, 115, 101]⟩]
def isKey (s : ByteArray) : Bool := inB s keysB
def worldN (s : ByteArray) : Int := idxB s worldB 0
def isN (s : ByteArray) : Bool := decide (1 ≤ s.size) && decide (s.size ≤ 24) && !digB (byteAt s 0) && !isKey s && allB wordB s
def fileN (s : ByteArray) : Bool := decide (1 ≤ s.size) && decide (s.size ≤ 16) && !decide (byteAt s 0 = 46) && allB fileB s
theorem worldN_range (s : ByteArray) : -1 ≤ worldN s ∧ worldN s ≤ 4 := by
 unfold worldN worldB
 simp only [idxB]
 repeat' split
 all_goals omega
/-- A key is no name; with an x behind it is one, and no key. -/
theorem key_facts (s : ByteArray) (h : isKey s = true) : isN s = false ∧ isN (s ++ ⟨#[120]⟩) = true ∧ isKey (s ++ ⟨#[120]⟩) = false := by
 have hm := inB_mem h
 simp only [keysB, List.mem_cons, List.not_mem_nil, or_false] at hm
 rcases hm with rfl | rfl | rfl | rfl | rfl | rfl | rfl | rfl | rfl | rfl | rfl | rfl | rfl
 all_goals exact ⟨by kernel_rfl, by kernel_rfl, by kernel_rfl⟩
theorem world_facts (s : ByteArray) (h : 0 ≤ worldN s) : isN s = true ∧ isKey s = false := by
 have hm : s ∈ worldB := idxB_mem (i := 0) (by unfold worldN at h; omega)
 simp only [worldB, List.mem_cons, List.not_mem_nil, or_false] at hm
 rcases hm with rfl | rfl | rfl | rfl | rfl
 all_goals exact ⟨by kernel_rfl, by kernel_rfl⟩
theorem low_iff (c : Nat) : lowB c = true ↔ 97 ≤ c ∧ c ≤ 122 := by simp [lowB]
theorem dig_iff (c : Nat) : digB c = true ↔ 48 ≤ c ∧ c ≤ 57 := by simp [digB]
theorem word_iff (c : Nat) : wordB c = true ↔ (c = 95 ∨ 97 ≤ c ∧ c ≤ 122 ∨ 65 ≤ c ∧ c ≤ 90 ∨ 48 ≤ c ∧ c ≤ 57) := by simp [wordB, letB, lowB, digB, or_assoc]
theorem let_iff (c : Nat) : letB c = true ↔ (c = 95 ∨ 97 ≤ c ∧ c ≤ 122 ∨ 65 ≤ c ∧ c ≤ 90) := by simp [letB, lowB, or_assoc]
theorem file_iff (c : Nat) : fileB c = true ↔ (97 ≤ c ∧ c ≤ 122 ∨ 48 ≤ c ∧ c ≤ 57 ∨ c = 46 ∨ c = 45 ∨ c = 95) := by simp [fileB, lowB, digB, or_assoc]
theorem not_true {b : Bool} {p : Prop} (h : b = true ↔ p) (hb : b = false) : ¬ p := fun hp => by rw [h.2 hp] at hb; cases hb
theorem is_false {b : Bool} {p : Prop} (h : b = true ↔ p) (hp : ¬ p) : b = false := by
 cases hb : b with
 | false => rfl
 | true => exact absurd (h.1 hb) hp
end Go.Proofs.YtiknnobgoamgcaaGreatDoor

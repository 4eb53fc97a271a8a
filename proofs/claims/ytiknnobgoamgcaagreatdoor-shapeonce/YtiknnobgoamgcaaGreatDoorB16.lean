/-
  1 texts in one.
-/
import Derived.Test.YtiknnobgoamgcaaGreatDoorB13
import Derived.Test.YtiknnobgoamgcaaGreatDoorB15
/-
  The parser: a func.
-/
namespace Go.Proofs.YtiknnobgoamgcaaGreatDoor
open Go.RowKit Go.Lib Go.Sort
set_option linter.unusedSimpArgs false
set_option linter.unusedVariables false
theorem cf_paTypeName (us : Array Value) (W : World) : Sem.run Tryz.prog (callFunc 112 us) W = .ok (.enter 112 us) W := by kernel_rfl
theorem prsA_len (L : List Tk) : ∀ (f : Nat) (l : F) (i : Nat) (l' : F) (j : Nat), prsA L f l i = .ok l' j → l'.len ≤ l.len + f
 | 0, l, i, l', j, h => by unfold prsA at h; cases h
 | f + 1, l, i, l', j, h => by
  unfold prsA at h
  split at h
  ·
   cases hr : typedA L 9 (i + 1) with
   | out => rw [hr] at h; cases h
   | bad j => rw [hr] at h; cases h
   | ok x k =>
    rw [hr] at h
    have := prsA_len L f _ _ _ _ h
    unfold snoc one at this
    rw [F.len_app] at this
    simp only [F.len] at this
    omega
  ·
   unfold wantA at h
   split at h
   ·
    injection h with e1 e2
    subst e1
    omega
   ·
    cases h
theorem plsA_len {L : List Tk} {f i j : Nat} {l : F} (h : plsA L f i = .ok l j) : l.len ≤ f + 1 := by
 unfold plsA at h
 split at h
 ·
  injection h with e1 e2
  subst e1
  simp [F.len]
 ·
  cases hr : typedA L 9 i with
  | out => rw [hr] at h; cases h
  | bad j => rw [hr] at h; cases h
  | ok x k =>
   rw [hr] at h
   have := prsA_len L f _ _ _ _ h
   simp only [one, F.len] at this
   omega
set_option maxHeartbeats 4000000 in
set_option maxRecDepth 100000 in
theorem paFunction_any {g : Nat} {tv : Value} {L : List Tk} {i : Nat} {w : World} (h : PaW g tv L i 0 w) {f : Nat} (S : StA g tv L f) (hf : f ≤ 1000000) (hne : funA L f i ≠ .out) : Calls Tryz.prog 91 #[.pointer (some ⟨g, 0, none⟩)] w fun e w' => ResN w.heap.size g tv L 0 w (funA L f i) e w' := by
 unfold funA at hne ⊢
 cases h1 : knd L i 1 with
 | false =>
  simp only [leafA, h1, PR.bind, Bool.false_eq_true, if_false]
  clear hne S
  have hP := zH (h.alloc (.cells #[.int .i64 0, .int .i64 0, .slice none 0 0] 24 (0, 0))).1
  have hM := zH (h.alloc (.cells #[.int .i64 0, .int .i64 0, .slice none 0 0] 24 (0, 0))).2
  have hN := zH (nblk_new w 0 0 none 0 0)
  obtain ⟨gb, hgb⟩ : ∃ gb, w.heap.size = gb := ⟨_, rfl⟩
  have hz : (w.alloc (.cells #[.int .i64 0, .int .i64 0, .slice none 0 0] 24 (0, 0))).heap.size = gb + 1 := by simp [hgb]
  have hgl : g < gb := by have := h.lt; omega
  rw [hgb] at hN
  obtain ⟨W1, hq_W1⟩ : ∃ W1, w.alloc (.cells #[.int .i64 0, .int .i64 0, .slice none 0 0] 24 (0, 0)) = W1 := ⟨_, rfl⟩
  rw [hq_W1] at hP hM hN hz
  replace hz := And.intro (Nat.le_of_eq hz) (Nat.le_of_eq hz.symm)
  replace h := zH h
  go_enter Tryz.func91, Tryz.ntmps91
  go_wp2_with fail
  clear hq_W1
  refine (paNamed_no (uH hP) 8 h1).mono ?_
  rintro e W2 hBad
  obtain rfl := hBad.1
  have hG := zH (hBad.pre (uH hM))
  clear hBad
  go_wp2
  exact ⟨rfl, uH hG⟩
 | true =>
  simp only [leafA, h1, PR.bind, if_true, wantA] at hne ⊢
  cases h2 : opA L (i + 1) [40] with
  | false =>
   simp only [Bool.false_eq_true, if_false]
   clear hne S
   have hP := zH (h.alloc (.cells #[.int .i64 0, .int .i64 0, .slice none 0 0] 24 (0, 0))).1
   have hM := zH (h.alloc (.cells #[.int .i64 0, .int .i64 0, .slice none 0 0] 24 (0, 0))).2
   have hN := zH (nblk_new w 0 0 none 0 0)
   obtain ⟨gb, hgb⟩ : ∃ gb, w.heap.size = gb := ⟨_, rfl⟩
   have hz : (w.alloc (.cells #[.int .i64 0, .int .i64 0, .slice none 0 0] 24 (0, 0))).heap.size = gb + 1 := by simp [hgb]
   have hgl : g < gb := by have := h.lt; omega
   rw [hgb] at hN
   obtain ⟨W1, hq_W1⟩ : ∃ W1, w.alloc (.cells #[.int .i64 0, .int .i64 0, .slice none 0 0] 24 (0, 0)) = W1 := ⟨_, rfl⟩
   rw [hq_W1] at hP hM hN hz
   replace hz := And.intro (Nat.le_of_eq hz) (Nat.le_of_eq hz.symm)
   replace h := zH h
   have hmf : ∀ (fn : Fn) (first cap : Array Value) (w : World), (Instr.makeFunc fn first cap).run Tryz.prog w = .ok (.func fn first cap) w := fun _ _ _ _ => rfl
   go_enter Tryz.func91, Tryz.ntmps91
   go_wp2_with fail
   clear hq_W1
   refine (paNamed_yes (uH hP) 8 h1).mono ?_
   rintro e W2 ⟨a1, m1, c1, rfl, hs, h2, hm⟩
   have hzs := hm.size
   have hs1 := zH (hs.mono (P' := fun x => gb < x ∧ x < W2.heap.size) (fun x hx => by have := (uH hN).lt; have e1 := hx.1; have e2 := hx.lt; exact ⟨by omega, by omega⟩))
   clear hs
   replace hN := zH ((uH hN).mop (uH hP) hm)
   have hzz := hm.size
   replace hM := zH ((uH hM).trans hm)
   replace hP := zH h2
   clear hm h2
   dsimp only at hs1 ⊢
   obtain rfl := sl_empty (uH hs1)
   obtain ⟨b1, hq_b1⟩ : ∃ x, W2.heap.size = x := ⟨_, rfl⟩
   have hB := zH (nblk_new W2 8 i a1 0 c1)
   have hm := mop_below (g := g) (below_alloc W2 (.cells #[.int .i64 8, .int .i64 i, .slice a1 0 c1] 24 (0, 0)))
   have h2 := (uH hP).below (below_alloc W2 (.cells #[.int .i64 8, .int .i64 i, .slice a1 0 c1] 24 (0, 0)))
   have hzs : (W2.alloc (.cells #[.int .i64 8, .int .i64 i, .slice a1 0 c1] 24 (0, 0))).heap.size = b1 + 1 := by simp [hq_b1]
   obtain ⟨W3, hq_W3⟩ : ∃ x, W2.alloc (.cells #[.int .i64 8, .int .i64 i, .slice a1 0 c1] 24 (0, 0)) = x := ⟨_, rfl⟩
   rw [hq_W3] at hB hm h2 hzs
   replace hzs := And.intro (Nat.le_of_eq hzs) (Nat.le_of_eq hzs.symm)
   rw [hq_b1] at hB
   replace hq_W3 := zH hq_W3
   replace hN := zH ((uH hN).mop (uH hP) hm)
   replace hs1 := zH ((uH hs1).mop (uH hP) hm)
   have hzz := hm.size
   replace hM := zH ((uH hM).trans hm)
   replace hP := zH h2
   clear hm h2
   go_wp2_with fail
   rw [uH hq_W3]
   clear hq_W3
   refine (paOp_any _ _).mono ?_
   rintro e W4 ⟨rfl, hb⟩
   have h2 := (uH hP).below hb
   have hm := mop_below (g := g) hb
   clear hb
   replace hN := zH ((uH hN).mop (uH hP) hm)
   replace hB := zH ((uH hB).mop (uH hP) hm)
   replace hs1 := zH ((uH hs1).mop (uH hP) hm)
   have hzz := hm.size
   replace hM := zH ((uH hM).trans hm)
   replace hP := zH h2
   clear hm h2
   go_wp2_with fail
   refine (paWant_no (uH hP) (opT [40]) (by rw [eqB_op]; exact h2)).mono ?_
   rintro e W5 hBad
   obtain rfl := hBad.1
   have hG := zH (hBad.pre (uH hM))
   clear hBad
   go_wp2
   exact ⟨rfl, uH hG⟩
  | true =>
   simp only [h2, if_true] at hne ⊢
   have hne1 : plsA L f (i + 1 + 1) ≠ .out := fun e => hne (by rw [e])
   have hH := zH (fun w h => paList_params (g := g) (tv := tv) (L := L) (w := w) (i := i + 1 + 1) (d := 0) h hf hne1)
   cases hrl : plsA L f (i + 1 + 1) with
   | out => exact absurd hrl hne1
   | bad j =>
    rw [hrl] at hH
    dsimp only
    clear hne S
    have hP := zH (h.alloc (.cells #[.int .i64 0, .int .i64 0, .slice none 0 0] 24 (0, 0))).1
    have hM := zH (h.alloc (.cells #[.int .i64 0, .int .i64 0, .slice none 0 0] 24 (0, 0))).2
    have hN := zH (nblk_new w 0 0 none 0 0)
    obtain ⟨gb, hgb⟩ : ∃ gb, w.heap.size = gb := ⟨_, rfl⟩
    have hz : (w.alloc (.cells #[.int .i64 0, .int .i64 0, .slice none 0 0] 24 (0, 0))).heap.size = gb + 1 := by simp [hgb]
    have hgl : g < gb := by have := h.lt; omega
    rw [hgb] at hN
    obtain ⟨W1, hq_W1⟩ : ∃ W1, w.alloc (.cells #[.int .i64 0, .int .i64 0, .slice none 0 0] 24 (0, 0)) = W1 := ⟨_, rfl⟩
    rw [hq_W1] at hP hM hN hz
    replace hz := And.intro (Nat.le_of_eq hz) (Nat.le_of_eq hz.symm)
    replace h := zH h
    have hmf : ∀ (fn : Fn) (first cap : Array Value) (w : World), (Instr.makeFunc fn first cap).run Tryz.prog w = .ok (.func fn first cap) w := fun _ _ _ _ => rfl
    go_enter Tryz.func91, Tryz.ntmps91
    go_wp2_with fail
    clear hq_W1
    refine (paNamed_yes (uH hP) 8 h1).mono ?_
    rintro e W2 ⟨a1, m1, c1, rfl, hs, h2, hm⟩
    have hzs := hm.size
    have hs1 := zH (hs.mono (P' := fun x => gb < x ∧ x < W2.heap.size) (fun x hx => by have := (uH hN).lt; have e1 := hx.1; have e2 := hx.lt; exact ⟨by omega, by omega⟩))
    clear hs
    replace hN := zH ((uH hN).mop (uH hP) hm)
    have hzz := hm.size
    replace hM := zH ((uH hM).trans hm)
    replace hP := zH h2
    clear hm h2
    dsimp only at hs1 ⊢
    obtain rfl := sl_empty (uH hs1)
    obtain ⟨b1, hq_b1⟩ : ∃ x, W2.heap.size = x := ⟨_, rfl⟩
    have hB := zH (nblk_new W2 8 i a1 0 c1)
    have hm := mop_below (g := g) (below_alloc W2 (.cells #[.int .i64 8, .int .i64 i, .slice a1 0 c1] 24 (0, 0)))
    have h2 := (uH hP).below (below_alloc W2 (.cells #[.int .i64 8, .int .i64 i, .slice a1 0 c1] 24 (0, 0)))
    have hzs : (W2.alloc (.cells #[.int .i64 8, .int .i64 i, .slice a1 0 c1] 24 (0, 0))).heap.size = b1 + 1 := by simp [hq_b1]
    obtain ⟨W3, hq_W3⟩ : ∃ x, W2.alloc (.cells #[.int .i64 8, .int .i64 i, .slice a1 0 c1] 24 (0, 0)) = x := ⟨_, rfl⟩
    rw [hq_W3] at hB hm h2 hzs
    replace hzs := And.intro (Nat.le_of_eq hzs) (Nat.le_of_eq hzs.symm)
    rw [hq_b1] at hB
    replace hq_W3 := zH hq_W3
    replace hN := zH ((uH hN).mop (uH hP) hm)
    replace hs1 := zH ((uH hs1).mop (uH hP) hm)
    have hzz := hm.size
    replace hM := zH ((uH hM).trans hm)
    replace hP := zH h2
    clear hm h2
    go_wp2_with fail
    rw [uH hq_W3]
    clear hq_W3
    refine (paOp_any _ _).mono ?_
    rintro e W4 ⟨rfl, hb⟩
    have h2 := (uH hP).below hb
    have hm := mop_below (g := g) hb
    clear hb
    replace hN := zH ((uH hN).mop (uH hP) hm)
    replace hB := zH ((uH hB).mop (uH hP) hm)
    replace hs1 := zH ((uH hs1).mop (uH hP) hm)
    have hzz := hm.size
    replace hM := zH ((uH hM).trans hm)
    replace hP := zH h2
    clear hm h2
    go_wp2_with fail
    refine (paWant_yes (uH hP) (opT [40]) (by rw [eqB_op]; exact h2) (opA_lt h2)).mono ?_
    rintro e W5 ⟨rfl, h2, hm⟩
    replace hN := zH ((uH hN).mop (uH hP) hm)
    replace hB := zH ((uH hB).mop (uH hP) hm)
    replace hs1 := zH ((uH hs1).mop (uH hP) hm)
    have hzz := hm.size
    replace hM := zH ((uH hM).trans hm)
    replace hP := zH h2
    clear hm h2
    go_wp2_with fail
    refine (uH hH _ (uH hP)).mono ?_
    rintro e W6 hBad
    obtain rfl := hBad.1
    have hG := zH (hBad.pre (uH hM))
    clear hBad
    go_wp2
    exact ⟨rfl, uH hG⟩
   | ok l k =>
    have hnl := zH (plsA_len hrl)
    rw [hrl] at hH hne
    dsimp only at hne ⊢
    cases hk : knd L k 1 with
    | false =>
     simp only [hk, Bool.false_eq_true, if_false] at hne ⊢
     have hneb : blkA L f k 0 ≠ .out := fun e => hne (by rw [e])
     have hHb := zH (fun w h => S.blk w k 0 h (by omega) hneb)
     clear hne S
     cases hrb : blkA L f k 0 with
     | out => exact absurd hrb hneb
     | bad j2 =>
      rw [hrb] at hHb
      dsimp only
      have hP := zH (h.alloc (.cells #[.int .i64 0, .int .i64 0, .slice none 0 0] 24 (0, 0))).1
      have hM := zH (h.alloc (.cells #[.int .i64 0, .int .i64 0, .slice none 0 0] 24 (0, 0))).2
      have hN := zH (nblk_new w 0 0 none 0 0)
      obtain ⟨gb, hgb⟩ : ∃ gb, w.heap.size = gb := ⟨_, rfl⟩
      have hz : (w.alloc (.cells #[.int .i64 0, .int .i64 0, .slice none 0 0] 24 (0, 0))).heap.size = gb + 1 := by simp [hgb]
      have hgl : g < gb := by have := h.lt; omega
      rw [hgb] at hN
      obtain ⟨W1, hq_W1⟩ : ∃ W1, w.alloc (.cells #[.int .i64 0, .int .i64 0, .slice none 0 0] 24 (0, 0)) = W1 := ⟨_, rfl⟩
      rw [hq_W1] at hP hM hN hz
      replace hz := And.intro (Nat.le_of_eq hz) (Nat.le_of_eq hz.symm)
      replace h := zH h
      have hmf : ∀ (fn : Fn) (first cap : Array Value) (w : World), (Instr.makeFunc fn first cap).run Tryz.prog w = .ok (.func fn first cap) w := fun _ _ _ _ => rfl
      go_enter Tryz.func91, Tryz.ntmps91
      go_wp2_with fail
      clear hq_W1
      refine (paNamed_yes (uH hP) 8 h1).mono ?_
      rintro e W2 ⟨a1, m1, c1, rfl, hs, h2, hm⟩
      have hzs := hm.size
      have hs1 := zH (hs.mono (P' := fun x => gb < x ∧ x < W2.heap.size) (fun x hx => by have := (uH hN).lt; have e1 := hx.1; have e2 := hx.lt; exact ⟨by omega, by omega⟩))
      clear hs
      replace hN := zH ((uH hN).mop (uH hP) hm)
      have hzz := hm.size
      replace hM := zH ((uH hM).trans hm)
      replace hP := zH h2
      clear hm h2
      dsimp only at hs1 ⊢
      obtain rfl := sl_empty (uH hs1)
      obtain ⟨b1, hq_b1⟩ : ∃ x, W2.heap.size = x := ⟨_, rfl⟩
      have hB := zH (nblk_new W2 8 i a1 0 c1)
      have hm := mop_below (g := g) (below_alloc W2 (.cells #[.int .i64 8, .int .i64 i, .slice a1 0 c1] 24 (0, 0)))
      have h2 := (uH hP).below (below_alloc W2 (.cells #[.int .i64 8, .int .i64 i, .slice a1 0 c1] 24 (0, 0)))
      have hzs : (W2.alloc (.cells #[.int .i64 8, .int .i64 i, .slice a1 0 c1] 24 (0, 0))).heap.size = b1 + 1 := by simp [hq_b1]
      obtain ⟨W3, hq_W3⟩ : ∃ x, W2.alloc (.cells #[.int .i64 8, .int .i64 i, .slice a1 0 c1] 24 (0, 0)) = x := ⟨_, rfl⟩
      rw [hq_W3] at hB hm h2 hzs
      replace hzs := And.intro (Nat.le_of_eq hzs) (Nat.le_of_eq hzs.symm)
      rw [hq_b1] at hB
      replace hq_W3 := zH hq_W3
      replace hN := zH ((uH hN).mop (uH hP) hm)
      replace hs1 := zH ((uH hs1).mop (uH hP) hm)
      have hzz := hm.size
      replace hM := zH ((uH hM).trans hm)
      replace hP := zH h2
      clear hm h2
      go_wp2_with fail
      rw [uH hq_W3]
      clear hq_W3
      refine (paOp_any _ _).mono ?_
      rintro e W4 ⟨rfl, hb⟩
      have h2 := (uH hP).below hb
      have hm := mop_below (g := g) hb
      clear hb
      replace hN := zH ((uH hN).mop (uH hP) hm)
      replace hB := zH ((uH hB).mop (uH hP) hm)
      replace hs1 := zH ((uH hs1).mop (uH hP) hm)
      have hzz := hm.size
      replace hM := zH ((uH hM).trans hm)
      replace hP := zH h2
      clear hm h2
      go_wp2_with fail
      refine (paWant_yes (uH hP) (opT [40]) (by rw [eqB_op]; exact h2) (opA_lt h2)).mono ?_
      rintro e W5 ⟨rfl, h2, hm⟩
      replace hN := zH ((uH hN).mop (uH hP) hm)
      replace hB := zH ((uH hB).mop (uH hP) hm)
      replace hs1 := zH ((uH hs1).mop (uH hP) hm)
      have hzz := hm.size
      replace hM := zH ((uH hM).trans hm)
      replace hP := zH h2
      clear hm h2
      go_wp2_with fail
      have hbl := (uH hB).lt
      refine (uH hH _ (uH hP)).mono ?_
      rintro e W6 ⟨al, cl, rfl, hs, h2, hm⟩
      have hzs := hm.size
      have hRlt := hs.lt
      have hR := zH ((hs.mono (P' := fun x => gb < x ∧ x ≠ b1) (fun x hx _ => ⟨by omega, by omega⟩)).base (B' := gb + 1) (fun y hy => by have := hRlt y hy; omega))
      have hRo : Hid (∀ y, (Value.slice al l.len cl).ownBlock = some y → y ≠ b1) := zH (fun y hy => by have := hRlt y hy; omega)
      clear hs hRlt hbl
      replace hN := zH ((uH hN).mop (uH hP) hm)
      replace hB := zH ((uH hB).mop (uH hP) hm)
      replace hs1 := zH ((uH hs1).mop (uH hP) hm)
      have hzz := hm.size
      replace hM := zH ((uH hM).trans hm)
      replace hP := zH h2
      clear hm h2
      obtain ⟨p0_hB, p1_hB, p2_hB⟩ := (uH hB).box
      have f0_hB := (uH hB).frozen 0
      have f1_hB := (uH hB).frozen 1
      have f2_hB := (uH hB).frozen 2
      obtain ⟨h2, hM2, hB2, hh⟩ := kid_set (uH hP) (uH hM) (uH hB) (by omega) al l.len cl
      have hzz : (W6.setCell ⟨b1, 2, none⟩ (.slice al l.len cl)).heap.size = W6.heap.size := by simp
      obtain ⟨W7, hq_W7⟩ : ∃ x, W6.setCell ⟨b1, 2, none⟩ (.slice al l.len cl) = x := ⟨_, rfl⟩
      rw [hq_W7] at h2 hM2 hB2 hh hzz
      replace hzz := And.intro (Nat.le_of_eq hzz) (Nat.le_of_eq hzz.symm)
      replace hR := zH ((uH hR).keep2 (w' := W7) (by omega) (fun y hy => hh y (uH hRo y hy)) (fun y hy _ => hh y hy.2))
      replace hN := zH ((uH hN).same (hh _ (by omega)))
      replace hs1 := zH ((uH hs1).keep (w' := W7) (fun x hx => hh x (by have e1 := hx.1; omega)))
      replace hB := zH hB2
      replace hM := zH hM2
      replace hP := zH h2
      clear hB2 hM2 h2 hh
      go_wp2_with fail
      clear hq_W7
      have hK := paIsKind_any (uH hP) 1
      rw [hk] at hK
      refine (hK).mono ?_
      rintro e W8 ⟨rfl, hb⟩
      have h2 := (uH hP).below hb
      have hm := mop_below (g := g) hb
      clear hb
      replace hN := zH ((uH hN).mop (uH hP) hm)
      replace hB := zH ((uH hB).mop (uH hP) hm)
      replace hR := zH ((uH hR).mop (uH hP) hm)
      have hzz := hm.size
      replace hM := zH ((uH hM).trans hm)
      replace hP := zH h2
      clear hm h2
      go_upto_region 6 with fail
      have hb : Below W8.heap.size W8 (World.drew W8) := (Below.refl _ _).drew
      have h2 := (uH hP).below hb
      have hm := mop_below (g := g) hb
      clear hb
      obtain ⟨WD, hq_WD⟩ : ∃ x, World.drew W8 = x := ⟨_, rfl⟩
      rw [hq_WD] at h2 hm
      replace hN := zH ((uH hN).mop (uH hP) hm)
      replace hB := zH ((uH hB).mop (uH hP) hm)
      replace hR := zH ((uH hR).mop (uH hP) hm)
      have hzz := hm.size
      replace hM := zH ((uH hM).trans hm)
      replace hP := zH h2
      clear hm h2
      have hS : NBlk WD b1 8 i al l.len cl := uH hB
      refine wp_region_D (fun w' => NBlk w' b1 8 i al l.len cl) (fun j => [7].contains j) (by kernel_rfl) ?_
      rw [hq_WD]
      clear hq_WD
      have hbl := (uH hB).lt
      have hRl := (uH hR).lt
      refine wpAnyD_takeC (i := 0) (v := .pointer (some ⟨b1, 2, none⟩)) [7] (fun _ => rfl) rfl (by kernel_rfl) 3 (by kernel_rfl) rfl (by kernel_rfl) (by kernel_rfl) (by kernel_rfl) (fun _ _ _ h => h) (Or.inl ⟨by kernel_rfl, ?_⟩) hS ?_
      ·
       intro w hSw
       go_simp
      try simp only [List.getElem_toArray, List.getElem_cons_succ, List.getElem_cons_zero, Act.put, List.setIfInBounds_toArray, List.set_cons_zero, List.set_cons_succ]
      refine wpAnyD_takeC (i := 1) (v := .slice al l.len cl) [7] (fun _ => rfl) rfl (by kernel_rfl) 3 (by kernel_rfl) rfl (by kernel_rfl) (by kernel_rfl) (by kernel_rfl) (fun _ _ _ h => h) (Or.inl ⟨by kernel_rfl, ?_⟩) hS ?_
      ·
       intro w hSw
       obtain ⟨e0, e1, e2⟩ := hSw.box
       go_simp
      try simp only [List.getElem_toArray, List.getElem_cons_succ, List.getElem_cons_zero, Act.put, List.setIfInBounds_toArray, List.set_cons_zero, List.set_cons_succ]
      refine wpAnyD_takeC (i := 2) (v := .pointer (some ⟨g, 0, none⟩)) [7] (fun _ => rfl) rfl (by kernel_rfl) 3 (by kernel_rfl) rfl (by kernel_rfl) (by kernel_rfl) (by kernel_rfl) (fun _ _ _ h => h) (Or.inl ⟨by kernel_rfl, ?_⟩) hS ?_
      ·
       intro w hSw
       go_simp
      try simp only [List.getElem_toArray, List.getElem_cons_succ, List.getElem_cons_zero, Act.put, List.setIfInBounds_toArray, List.set_cons_zero, List.set_cons_succ]
      refine wpAnyD_one (i := 3) rfl (by kernel_rfl) (fun K' hK_ => ?_)
      rw [if_pos (by kernel_rfl)]
      refine oper_callR (run_call1 cf_paBlock) ?_
      refine (uH hHb _ (uH hP)).mono ?_
      rintro e W9 hBad
      obtain rfl := hBad.1
      have hG := zH (hBad.pre (uH hM))
      clear hBad
      go_wp2
      exact ⟨rfl, uH hG⟩
     | ok b j2 =>
      obtain ⟨bk, bt, bb⟩ := b
      rw [hrb] at hHb
      simp only [snoc, one]
      have hP := zH (h.alloc (.cells #[.int .i64 0, .int .i64 0, .slice none 0 0] 24 (0, 0))).1
      have hM := zH (h.alloc (.cells #[.int .i64 0, .int .i64 0, .slice none 0 0] 24 (0, 0))).2
      have hN := zH (nblk_new w 0 0 none 0 0)
      obtain ⟨gb, hgb⟩ : ∃ gb, w.heap.size = gb := ⟨_, rfl⟩
      have hz : (w.alloc (.cells #[.int .i64 0, .int .i64 0, .slice none 0 0] 24 (0, 0))).heap.size = gb + 1 := by simp [hgb]
      have hgl : g < gb := by have := h.lt; omega
      rw [hgb] at hN
      obtain ⟨W1, hq_W1⟩ : ∃ W1, w.alloc (.cells #[.int .i64 0, .int .i64 0, .slice none 0 0] 24 (0, 0)) = W1 := ⟨_, rfl⟩
      rw [hq_W1] at hP hM hN hz
      replace hz := And.intro (Nat.le_of_eq hz) (Nat.le_of_eq hz.symm)
      replace h := zH h
      have hmf : ∀ (fn : Fn) (first cap : Array Value) (w : World), (Instr.makeFunc fn first cap).run Tryz.prog w = .ok (.func fn first cap) w := fun _ _ _ _ => rfl
      go_enter Tryz.func91, Tryz.ntmps91
      go_wp2_with fail
      clear hq_W1
      refine (paNamed_yes (uH hP) 8 h1).mono ?_
      rintro e W2 ⟨a1, m1, c1, rfl, hs, h2, hm⟩
      have hzs := hm.size
      have hs1 := zH (hs.mono (P' := fun x => gb < x ∧ x < W2.heap.size) (fun x hx => by have := (uH hN).lt; have e1 := hx.1; have e2 := hx.lt; exact ⟨by omega, by omega⟩))
      clear hs
      replace hN := zH ((uH hN).mop (uH hP) hm)
      have hzz := hm.size
      replace hM := zH ((uH hM).trans hm)
      replace hP := zH h2
      clear hm h2
      dsimp only at hs1 ⊢
      obtain rfl := sl_empty (uH hs1)
      obtain ⟨b1, hq_b1⟩ : ∃ x, W2.heap.size = x := ⟨_, rfl⟩
      have hB := zH (nblk_new W2 8 i a1 0 c1)
      have hm := mop_below (g := g) (below_alloc W2 (.cells #[.int .i64 8, .int .i64 i, .slice a1 0 c1] 24 (0, 0)))
      have h2 := (uH hP).below (below_alloc W2 (.cells #[.int .i64 8, .int .i64 i, .slice a1 0 c1] 24 (0, 0)))
      have hzs : (W2.alloc (.cells #[.int .i64 8, .int .i64 i, .slice a1 0 c1] 24 (0, 0))).heap.size = b1 + 1 := by simp [hq_b1]
      obtain ⟨W3, hq_W3⟩ : ∃ x, W2.alloc (.cells #[.int .i64 8, .int .i64 i, .slice a1 0 c1] 24 (0, 0)) = x := ⟨_, rfl⟩
      rw [hq_W3] at hB hm h2 hzs
      replace hzs := And.intro (Nat.le_of_eq hzs) (Nat.le_of_eq hzs.symm)
      rw [hq_b1] at hB
      replace hq_W3 := zH hq_W3
      replace hN := zH ((uH hN).mop (uH hP) hm)
      replace hs1 := zH ((uH hs1).mop (uH hP) hm)
      have hzz := hm.size
      replace hM := zH ((uH hM).trans hm)
      replace hP := zH h2
      clear hm h2
      go_wp2_with fail
      rw [uH hq_W3]
      clear hq_W3
      refine (paOp_any _ _).mono ?_
      rintro e W4 ⟨rfl, hb⟩
      have h2 := (uH hP).below hb
      have hm := mop_below (g := g) hb
      clear hb
      replace hN := zH ((uH hN).mop (uH hP) hm)
      replace hB := zH ((uH hB).mop (uH hP) hm)
      replace hs1 := zH ((uH hs1).mop (uH hP) hm)
      have hzz := hm.size
      replace hM := zH ((uH hM).trans hm)
      replace hP := zH h2
      clear hm h2
      go_wp2_with fail
      refine (paWant_yes (uH hP) (opT [40]) (by rw [eqB_op]; exact h2) (opA_lt h2)).mono ?_
      rintro e W5 ⟨rfl, h2, hm⟩
      replace hN := zH ((uH hN).mop (uH hP) hm)
      replace hB := zH ((uH hB).mop (uH hP) hm)
      replace hs1 := zH ((uH hs1).mop (uH hP) hm)
      have hzz := hm.size
      replace hM := zH ((uH hM).trans hm)
      replace hP := zH h2
      clear hm h2
      go_wp2_with fail
      have hbl := (uH hB).lt
      refine (uH hH _ (uH hP)).mono ?_
      rintro e W6 ⟨al, cl, rfl, hs, h2, hm⟩
      have hzs := hm.size
      have hRlt := hs.lt
      have hR := zH ((hs.mono (P' := fun x => gb < x ∧ x ≠ b1) (fun x hx _ => ⟨by omega, by omega⟩)).base (B' := gb + 1) (fun y hy => by have := hRlt y hy; omega))
      have hRo : Hid (∀ y, (Value.slice al l.len cl).ownBlock = some y → y ≠ b1) := zH (fun y hy => by have := hRlt y hy; omega)
      clear hs hRlt hbl
      replace hN := zH ((uH hN).mop (uH hP) hm)
      replace hB := zH ((uH hB).mop (uH hP) hm)
      replace hs1 := zH ((uH hs1).mop (uH hP) hm)
      have hzz := hm.size
      replace hM := zH ((uH hM).trans hm)
      replace hP := zH h2
      clear hm h2
      obtain ⟨p0_hB, p1_hB, p2_hB⟩ := (uH hB).box
      have f0_hB := (uH hB).frozen 0
      have f1_hB := (uH hB).frozen 1
      have f2_hB := (uH hB).frozen 2
      obtain ⟨h2, hM2, hB2, hh⟩ := kid_set (uH hP) (uH hM) (uH hB) (by omega) al l.len cl
      have hzz : (W6.setCell ⟨b1, 2, none⟩ (.slice al l.len cl)).heap.size = W6.heap.size := by simp
      obtain ⟨W7, hq_W7⟩ : ∃ x, W6.setCell ⟨b1, 2, none⟩ (.slice al l.len cl) = x := ⟨_, rfl⟩
      rw [hq_W7] at h2 hM2 hB2 hh hzz
      replace hzz := And.intro (Nat.le_of_eq hzz) (Nat.le_of_eq hzz.symm)
      replace hR := zH ((uH hR).keep2 (w' := W7) (by omega) (fun y hy => hh y (uH hRo y hy)) (fun y hy _ => hh y hy.2))
      replace hN := zH ((uH hN).same (hh _ (by omega)))
      replace hs1 := zH ((uH hs1).keep (w' := W7) (fun x hx => hh x (by have e1 := hx.1; omega)))
      replace hB := zH hB2
      replace hM := zH hM2
      replace hP := zH h2
      clear hB2 hM2 h2 hh
      go_wp2_with fail
      clear hq_W7
      have hK := paIsKind_any (uH hP) 1
      rw [hk] at hK
      refine (hK).mono ?_
      rintro e W8 ⟨rfl, hb⟩
      have h2 := (uH hP).below hb
      have hm := mop_below (g := g) hb
      clear hb
      replace hN := zH ((uH hN).mop (uH hP) hm)
      replace hB := zH ((uH hB).mop (uH hP) hm)
      replace hR := zH ((uH hR).mop (uH hP) hm)
      have hzz := hm.size
      replace hM := zH ((uH hM).trans hm)
      replace hP := zH h2
      clear hm h2
      go_upto_region 6 with fail
      have hb : Below W8.heap.size W8 (World.drew W8) := (Below.refl _ _).drew
      have h2 := (uH hP).below hb
      have hm := mop_below (g := g) hb
      clear hb
      obtain ⟨WD, hq_WD⟩ : ∃ x, World.drew W8 = x := ⟨_, rfl⟩
      rw [hq_WD] at h2 hm
      replace hN := zH ((uH hN).mop (uH hP) hm)
      replace hB := zH ((uH hB).mop (uH hP) hm)
      replace hR := zH ((uH hR).mop (uH hP) hm)
      have hzz := hm.size
      replace hM := zH ((uH hM).trans hm)
      replace hP := zH h2
      clear hm h2
      have hS : NBlk WD b1 8 i al l.len cl := uH hB
      refine wp_region_D (fun w' => NBlk w' b1 8 i al l.len cl) (fun j => [7].contains j) (by kernel_rfl) ?_
      rw [hq_WD]
      clear hq_WD
      have hbl := (uH hB).lt
      have hRl := (uH hR).lt
      refine wpAnyD_takeC (i := 0) (v := .pointer (some ⟨b1, 2, none⟩)) [7] (fun _ => rfl) rfl (by kernel_rfl) 3 (by kernel_rfl) rfl (by kernel_rfl) (by kernel_rfl) (by kernel_rfl) (fun _ _ _ h => h) (Or.inl ⟨by kernel_rfl, ?_⟩) hS ?_
      ·
       intro w hSw
       go_simp
      try simp only [List.getElem_toArray, List.getElem_cons_succ, List.getElem_cons_zero, Act.put, List.setIfInBounds_toArray, List.set_cons_zero, List.set_cons_succ]
      refine wpAnyD_takeC (i := 1) (v := .slice al l.len cl) [7] (fun _ => rfl) rfl (by kernel_rfl) 3 (by kernel_rfl) rfl (by kernel_rfl) (by kernel_rfl) (by kernel_rfl) (fun _ _ _ h => h) (Or.inl ⟨by kernel_rfl, ?_⟩) hS ?_
      ·
       intro w hSw
       obtain ⟨e0, e1, e2⟩ := hSw.box
       go_simp
      try simp only [List.getElem_toArray, List.getElem_cons_succ, List.getElem_cons_zero, Act.put, List.setIfInBounds_toArray, List.set_cons_zero, List.set_cons_succ]
      refine wpAnyD_takeC (i := 2) (v := .pointer (some ⟨g, 0, none⟩)) [7] (fun _ => rfl) rfl (by kernel_rfl) 3 (by kernel_rfl) rfl (by kernel_rfl) (by kernel_rfl) (by kernel_rfl) (fun _ _ _ h => h) (Or.inl ⟨by kernel_rfl, ?_⟩) hS ?_
      ·
       intro w hSw
       go_simp
      try simp only [List.getElem_toArray, List.getElem_cons_succ, List.getElem_cons_zero, Act.put, List.setIfInBounds_toArray, List.set_cons_zero, List.set_cons_succ]
      refine wpAnyD_one (i := 3) rfl (by kernel_rfl) (fun K' hK_ => ?_)
      rw [if_pos (by kernel_rfl)]
      refine oper_callR (run_call1 cf_paBlock) ?_
      refine (uH hHb _ (uH hP)).mono ?_
      rintro e W9 ⟨a4, m4, c4, rfl, hs, h2, hm⟩
      dsimp only at hs
      have hzs := hm.size
      have hs2 := zH (hs.mono (P' := fun x => (gb < x ∧ x ≠ b1) ∧ (Value.slice al l.len cl).ownBlock ≠ some x) (fun x hx => by have e1 := hx.1; exact ⟨⟨by omega, by omega⟩, fun e => by have := hRl x e; omega⟩))
      clear hs
      replace hN := zH ((uH hN).mop (uH hP) hm)
      replace hB := zH ((uH hB).mop (uH hP) hm)
      replace hR := zH ((uH hR).mop (uH hP) hm)
      have hzz := hm.size
      replace hM := zH ((uH hM).trans hm)
      replace hP := zH h2
      clear hm h2
      have hSW9 : NBlk W9 b1 8 i al l.len cl := uH hB
      refine hK_ _ _ (fun _ => hSW9) ?_
      clear hK_ K' hS
      have hS := hSW9
      try simp only [List.getElem_toArray, List.getElem_cons_succ, List.getElem_cons_zero, Act.put, List.setIfInBounds_toArray, List.set_cons_zero, List.set_cons_succ]
      refine wpAnyD_one (i := 4) rfl (by kernel_rfl) (fun K' hK_ => ?_)
      rw [if_pos (by kernel_rfl)]
      refine oper_of_run (run_build_one W9 _ _ _ _ _ _ _ bk bt a4 m4 c4 rfl) ?_
      have hbl2 := (uH hB).lt
      have hL := (lit1_sl (P := fun x => (gb < x ∧ x ≠ b1) ∧ (Value.slice al l.len cl).ownBlock ≠ some x) W9 bk bt a4 m4 c4 bb (uH hs2) ⟨⟨by omega, by omega⟩, fun e => by have := hRl _ e; omega⟩).mono (P' := fun x => (gb < x ∧ x ≠ b1) ∧ (Value.slice al l.len cl).ownBlock ≠ some x ∧ x < (W9.alloc (.cells #[.int .i64 bk, .int .i64 bt, .slice a4 m4 c4] 24 (0, 0))).heap.size) (fun x hx => ⟨hx.1.1, hx.1.2, hx.lt⟩)
      have hm := mop_below (g := g) (below_alloc W9 (.cells #[.int .i64 bk, .int .i64 bt, .slice a4 m4 c4] 24 (0, 0)))
      have h2 := (uH hP).below (below_alloc W9 (.cells #[.int .i64 bk, .int .i64 bt, .slice a4 m4 c4] 24 (0, 0)))
      obtain ⟨gl, hgl2⟩ : ∃ x, W9.heap.size = x := ⟨_, rfl⟩
      have hzz : (W9.alloc (.cells #[.int .i64 bk, .int .i64 bt, .slice a4 m4 c4] 24 (0, 0))).heap.size = gl + 1 := by simp [hgl2]
      obtain ⟨W10, hq_W10⟩ : ∃ x, W9.alloc (.cells #[.int .i64 bk, .int .i64 bt, .slice a4 m4 c4] 24 (0, 0)) = x := ⟨_, rfl⟩
      rw [hq_W10] at hL hm h2 hzz
      rw [hgl2] at hL
      replace hzz := And.intro (Nat.le_of_eq hzz) (Nat.le_of_eq hzz.symm)
      rw [hq_W10, hgl2]
      clear hq_W10 hs2
      replace hL := zH hL
      replace hN := zH ((uH hN).mop (uH hP) hm)
      replace hB := zH ((uH hB).mop (uH hP) hm)
      replace hR := zH ((uH hR).mop (uH hP) hm)
      have hzz := hm.size
      replace hM := zH ((uH hM).trans hm)
      replace hP := zH h2
      clear hm h2
      have hSW10 : NBlk W10 b1 8 i al l.len cl := uH hB
      refine hK_ _ _ (fun _ => hSW10) ?_
      clear hK_ K' hS
      have hS := hSW10
      try simp only [List.getElem_toArray, List.getElem_cons_succ, List.getElem_cons_zero, Act.put, List.setIfInBounds_toArray, List.set_cons_zero, List.set_cons_succ]
      refine wpAnyD_one (i := 5) rfl (by kernel_rfl) (fun K' hK_ => ?_)
      rw [if_pos (by kernel_rfl)]
      refine oper_append_rowP (.tmp 24) (.tmp 27) rfl rfl (uH hR) rfl (uH hL) (by have := uH hnl; omega) (by omega) ?_
      intro v4 W11 hR4 hb4 hg4 hl4
      have hzg := hg4.size
      have hbl3 := (uH hB).lt
      have hbm := hb4.mono (show w.heap.size ≤ gb + 1 by omega)
      have h2 := (uH hP).belowB (uH h) hbm
      have hM4 := mop_belowB (uH h) hbm (by omega) (uH hM)
      replace hN := zH ((uH hN).same (hb4.block _ (by omega)))
      replace hB := zH ((uH hB).same (hg4.block _ hbl3 (fun e => uH hRo _ e.symm rfl)))
      replace hP := zH h2
      replace hM := zH hM4
      have hRo4 : Hid (∀ y, v4.ownBlock = some y → y ≠ b1) := zH (fun y hy => by
       rcases hl4 with e | e
       ·
        exact uH hRo y (e ▸ hy)
       ·
        rw [e] at hy
        injection hy with hy
        omega)
      replace hRo := hRo4
      obtain ⟨a6, c6, rfl, _⟩ := hR4.slO (fun y hy => ⟨by have := hR4.lt y hy; omega, uH hRo y hy⟩)
      replace hR := zH hR4
      clear hR4 hb4 hg4 hl4 hbm h2 hM4 hL hRo4
      have hSW11 : NBlk W11 b1 8 i al l.len cl := uH hB
      refine hK_ _ _ (fun _ => hSW11) ?_
      clear hK_ K' hS
      have hS := hSW11
      try simp only [List.getElem_toArray, List.getElem_cons_succ, List.getElem_cons_zero, Act.put, List.setIfInBounds_toArray, List.set_cons_zero, List.set_cons_succ]
      refine wpAnyD_one (i := 6) rfl (by kernel_rfl) (fun K' hK_ => ?_)
      rw [if_pos (by kernel_rfl)]
      refine oper_of_run (v := .pointer (some ⟨b1, 2, none⟩)) (w' := W11) (by clear hK_; go_simp) ?_
      refine hK_ _ _ (fun _ => hS) ?_
      clear hK_ K'
      try simp only [List.getElem_toArray, List.getElem_cons_succ, List.getElem_cons_zero, Act.put, List.setIfInBounds_toArray, List.set_cons_zero, List.set_cons_succ]
      refine wpAnyD_one (i := 7) rfl (by kernel_rfl) (fun K' hK_ => ?_)
      rw [if_pos (by kernel_rfl)]
      refine oper_skip (run_store_kids W11 _ _ _ _ _ _ _ _ b1 8 i al a6 l.len cl (F.app l (.cons bk bt bb .nil)).len c6 (uH hB) rfl rfl) ?_
      obtain ⟨h2, hM2, hB2, hh⟩ := kid_set (uH hP) (uH hM) (uH hB) (by omega) a6 (F.app l (.cons bk bt bb .nil)).len c6
      have hzz : (W11.setCell ⟨b1, 2, none⟩ (.slice a6 (F.app l (.cons bk bt bb .nil)).len c6)).heap.size = W11.heap.size := by simp
      obtain ⟨W12, hq_W12⟩ : ∃ x, W11.setCell ⟨b1, 2, none⟩ (.slice a6 (F.app l (.cons bk bt bb .nil)).len c6) = x := ⟨_, rfl⟩
      rw [hq_W12] at h2 hM2 hB2 hh hzz
      replace hzz := And.intro (Nat.le_of_eq hzz) (Nat.le_of_eq hzz.symm)
      replace hR := zH ((uH hR).keep2 (w' := W12) (by omega) (fun y hy => hh y (uH hRo y hy)) (fun y hy _ => hh y hy.2))
      replace hN := zH ((uH hN).same (hh _ (by omega)))
      replace hB := zH hB2
      replace hM := zH hM2
      replace hP := zH h2
      clear hB2 hM2 h2 hh
      rw [hq_W12]
      clear hq_W12
      refine hK_ _ _ (fun h => by cases h) ?_
      clear hK_ K'
      try simp only [List.getElem_toArray, List.getElem_cons_succ, List.getElem_cons_zero, Act.put, List.setIfInBounds_toArray, List.set_cons_zero, List.set_cons_succ]
      clear hS
      refine wpAnyD_done (by kernel_rfl) ?_ _
      obtain ⟨p0_hB, p1_hB, p2_hB⟩ := (uH hB).box
      have f0_hB := (uH hB).frozen 0
      have f1_hB := (uH hB).frozen 1
      have f2_hB := (uH hB).frozen 2
      obtain ⟨p0_hN, p1_hN, p2_hN⟩ := (uH hN).box
      have f0_hN := (uH hN).frozen 0
      have f1_hN := (uH hN).frozen 1
      have f2_hN := (uH hN).frozen 2
      have hF := zH (res_finR (k := 8) (t := i) (w := w) (gb := gb) (by omega) (uH hN) (uH hR) (fun x hx => hx.1) (uH hP) (uH hM))
      go_wp2
      obtain ⟨q1, q2, q3, q4⟩ := uH hF
      obtain ⟨u0, u1, u2⟩ := q1.box
      refine bodyPost_ret (v := .agg #[.int .i64 (8), .int .i64 (i), .slice (a6) ((F.app l (.cons bk bt bb .nil)).len) (c6)]) (by simp [results, Tryz.results91, go_sem, u0, u1, u2]) rfl ?_
      exact ResR.n (r := .ok ⟨8, i, F.app l (.cons bk bt bb .nil)⟩ j2) ⟨_, _, _, rfl, (by first | exact q2 | (rw [hgb]; exact q2) | exact (q2.mono (fun y hy _ => by omega)).base (fun y hy => by have := q2.lt y hy; omega)), q3, q4⟩
    | true =>
     simp only [hk, if_true] at hne ⊢
     have hHt := zH (fun w h => paTypeName_any (g := g) (tv := tv) (L := L) (w := w) (i := k) (d := 0) h)
     cases hrt : typA L k with
     | out => rw [hrt] at hne; exact absurd rfl hne
     | bad j =>
      rw [hrt] at hHt
      dsimp only
      clear hne S
      have hP := zH (h.alloc (.cells #[.int .i64 0, .int .i64 0, .slice none 0 0] 24 (0, 0))).1
      have hM := zH (h.alloc (.cells #[.int .i64 0, .int .i64 0, .slice none 0 0] 24 (0, 0))).2
      have hN := zH (nblk_new w 0 0 none 0 0)
      obtain ⟨gb, hgb⟩ : ∃ gb, w.heap.size = gb := ⟨_, rfl⟩
      have hz : (w.alloc (.cells #[.int .i64 0, .int .i64 0, .slice none 0 0] 24 (0, 0))).heap.size = gb + 1 := by simp [hgb]
      have hgl : g < gb := by have := h.lt; omega
      rw [hgb] at hN
      obtain ⟨W1, hq_W1⟩ : ∃ W1, w.alloc (.cells #[.int .i64 0, .int .i64 0, .slice none 0 0] 24 (0, 0)) = W1 := ⟨_, rfl⟩
      rw [hq_W1] at hP hM hN hz
      replace hz := And.intro (Nat.le_of_eq hz) (Nat.le_of_eq hz.symm)
      replace h := zH h
      have hmf : ∀ (fn : Fn) (first cap : Array Value) (w : World), (Instr.makeFunc fn first cap).run Tryz.prog w = .ok (.func fn first cap) w := fun _ _ _ _ => rfl
      go_enter Tryz.func91, Tryz.ntmps91
      go_wp2_with fail
      clear hq_W1
      refine (paNamed_yes (uH hP) 8 h1).mono ?_
      rintro e W2 ⟨a1, m1, c1, rfl, hs, h2, hm⟩
      have hzs := hm.size
      have hs1 := zH (hs.mono (P' := fun x => gb < x ∧ x < W2.heap.size) (fun x hx => by have := (uH hN).lt; have e1 := hx.1; have e2 := hx.lt; exact ⟨by omega, by omega⟩))
      clear hs
      replace hN := zH ((uH hN).mop (uH hP) hm)
      have hzz := hm.size
      replace hM := zH ((uH hM).trans hm)
      replace hP := zH h2
      clear hm h2
      dsimp only at hs1 ⊢
      obtain rfl := sl_empty (uH hs1)
      obtain ⟨b1, hq_b1⟩ : ∃ x, W2.heap.size = x := ⟨_, rfl⟩
      have hB := zH (nblk_new W2 8 i a1 0 c1)
      have hm := mop_below (g := g) (below_alloc W2 (.cells #[.int .i64 8, .int .i64 i, .slice a1 0 c1] 24 (0, 0)))
      have h2 := (uH hP).below (below_alloc W2 (.cells #[.int .i64 8, .int .i64 i, .slice a1 0 c1] 24 (0, 0)))
      have hzs : (W2.alloc (.cells #[.int .i64 8, .int .i64 i, .slice a1 0 c1] 24 (0, 0))).heap.size = b1 + 1 := by simp [hq_b1]
      obtain ⟨W3, hq_W3⟩ : ∃ x, W2.alloc (.cells #[.int .i64 8, .int .i64 i, .slice a1 0 c1] 24 (0, 0)) = x := ⟨_, rfl⟩
      rw [hq_W3] at hB hm h2 hzs
      replace hzs := And.intro (Nat.le_of_eq hzs) (Nat.le_of_eq hzs.symm)
      rw [hq_b1] at hB
      replace hq_W3 := zH hq_W3
      replace hN := zH ((uH hN).mop (uH hP) hm)
      replace hs1 := zH ((uH hs1).mop (uH hP) hm)
      have hzz := hm.size
      replace hM := zH ((uH hM).trans hm)
      replace hP := zH h2
      clear hm h2
      go_wp2_with fail
      rw [uH hq_W3]
      clear hq_W3
      refine (paOp_any _ _).mono ?_
      rintro e W4 ⟨rfl, hb⟩
      have h2 := (uH hP).below hb
      have hm := mop_below (g := g) hb
      clear hb
      replace hN := zH ((uH hN).mop (uH hP) hm)
      replace hB := zH ((uH hB).mop (uH hP) hm)
      replace hs1 := zH ((uH hs1).mop (uH hP) hm)
      have hzz := hm.size
      replace hM := zH ((uH hM).trans hm)
      replace hP := zH h2
      clear hm h2
      go_wp2_with fail
      refine (paWant_yes (uH hP) (opT [40]) (by rw [eqB_op]; exact h2) (opA_lt h2)).mono ?_
      rintro e W5 ⟨rfl, h2, hm⟩
      replace hN := zH ((uH hN).mop (uH hP) hm)
      replace hB := zH ((uH hB).mop (uH hP) hm)
      replace hs1 := zH ((uH hs1).mop (uH hP) hm)
      have hzz := hm.size
      replace hM := zH ((uH hM).trans hm)
      replace hP := zH h2
      clear hm h2
      go_wp2_with fail
      have hbl := (uH hB).lt
      refine (uH hH _ (uH hP)).mono ?_
      rintro e W6 ⟨al, cl, rfl, hs, h2, hm⟩
      have hzs := hm.size
      have hRlt := hs.lt
      have hR := zH ((hs.mono (P' := fun x => gb < x ∧ x ≠ b1) (fun x hx _ => ⟨by omega, by omega⟩)).base (B' := gb + 1) (fun y hy => by have := hRlt y hy; omega))
      have hRo : Hid (∀ y, (Value.slice al l.len cl).ownBlock = some y → y ≠ b1) := zH (fun y hy => by have := hRlt y hy; omega)
      clear hs hRlt hbl
      replace hN := zH ((uH hN).mop (uH hP) hm)
      replace hB := zH ((uH hB).mop (uH hP) hm)
      replace hs1 := zH ((uH hs1).mop (uH hP) hm)
      have hzz := hm.size
      replace hM := zH ((uH hM).trans hm)
      replace hP := zH h2
      clear hm h2
      obtain ⟨p0_hB, p1_hB, p2_hB⟩ := (uH hB).box
      have f0_hB := (uH hB).frozen 0
      have f1_hB := (uH hB).frozen 1
      have f2_hB := (uH hB).frozen 2
      obtain ⟨h2, hM2, hB2, hh⟩ := kid_set (uH hP) (uH hM) (uH hB) (by omega) al l.len cl
      have hzz : (W6.setCell ⟨b1, 2, none⟩ (.slice al l.len cl)).heap.size = W6.heap.size := by simp
      obtain ⟨W7, hq_W7⟩ : ∃ x, W6.setCell ⟨b1, 2, none⟩ (.slice al l.len cl) = x := ⟨_, rfl⟩
      rw [hq_W7] at h2 hM2 hB2 hh hzz
      replace hzz := And.intro (Nat.le_of_eq hzz) (Nat.le_of_eq hzz.symm)
      replace hR := zH ((uH hR).keep2 (w' := W7) (by omega) (fun y hy => hh y (uH hRo y hy)) (fun y hy _ => hh y hy.2))
      replace hN := zH ((uH hN).same (hh _ (by omega)))
      replace hs1 := zH ((uH hs1).keep (w' := W7) (fun x hx => hh x (by have e1 := hx.1; omega)))
      replace hB := zH hB2
      replace hM := zH hM2
      replace hP := zH h2
      clear hB2 hM2 h2 hh
      go_wp2_with fail
      clear hq_W7
      have hK := paIsKind_any (uH hP) 1
      rw [hk] at hK
      refine (hK).mono ?_
      rintro e W8 ⟨rfl, hb⟩
      have h2 := (uH hP).below hb
      have hm := mop_below (g := g) hb
      clear hb
      replace hN := zH ((uH hN).mop (uH hP) hm)
      replace hB := zH ((uH hB).mop (uH hP) hm)
      replace hR := zH ((uH hR).mop (uH hP) hm)
      have hzz := hm.size
      replace hM := zH ((uH hM).trans hm)
      replace hP := zH h2
      clear hm h2
      go_upto_region 5 with fail
      have hb : Below W8.heap.size W8 (World.drew W8) := (Below.refl _ _).drew
      have h2 := (uH hP).below hb
      have hm := mop_below (g := g) hb
      clear hb
      obtain ⟨WD, hq_WD⟩ : ∃ x, World.drew W8 = x := ⟨_, rfl⟩
      rw [hq_WD] at h2 hm
      replace hN := zH ((uH hN).mop (uH hP) hm)
      replace hB := zH ((uH hB).mop (uH hP) hm)
      replace hR := zH ((uH hR).mop (uH hP) hm)
      have hzz := hm.size
      replace hM := zH ((uH hM).trans hm)
      replace hP := zH h2
      clear hm h2
      have hS : NBlk WD b1 8 i al l.len cl := uH hB
      refine wp_region_D (fun w' => NBlk w' b1 8 i al l.len cl) (fun j => [7].contains j) (by kernel_rfl) ?_
      rw [hq_WD]
      clear hq_WD
      have hbl := (uH hB).lt
      have hRl := (uH hR).lt
      refine wpAnyD_takeC (i := 0) (v := .pointer (some ⟨b1, 2, none⟩)) [7] (fun _ => rfl) rfl (by kernel_rfl) 3 (by kernel_rfl) rfl (by kernel_rfl) (by kernel_rfl) (by kernel_rfl) (fun _ _ _ h => h) (Or.inl ⟨by kernel_rfl, ?_⟩) hS ?_
      ·
       intro w hSw
       go_simp
      try simp only [List.getElem_toArray, List.getElem_cons_succ, List.getElem_cons_zero, Act.put, List.setIfInBounds_toArray, List.set_cons_zero, List.set_cons_succ]
      refine wpAnyD_takeC (i := 1) (v := .slice al l.len cl) [7] (fun _ => rfl) rfl (by kernel_rfl) 3 (by kernel_rfl) rfl (by kernel_rfl) (by kernel_rfl) (by kernel_rfl) (fun _ _ _ h => h) (Or.inl ⟨by kernel_rfl, ?_⟩) hS ?_
      ·
       intro w hSw
       obtain ⟨e0, e1, e2⟩ := hSw.box
       go_simp
      try simp only [List.getElem_toArray, List.getElem_cons_succ, List.getElem_cons_zero, Act.put, List.setIfInBounds_toArray, List.set_cons_zero, List.set_cons_succ]
      refine wpAnyD_takeC (i := 2) (v := .pointer (some ⟨g, 0, none⟩)) [7] (fun _ => rfl) rfl (by kernel_rfl) 3 (by kernel_rfl) rfl (by kernel_rfl) (by kernel_rfl) (by kernel_rfl) (fun _ _ _ h => h) (Or.inl ⟨by kernel_rfl, ?_⟩) hS ?_
      ·
       intro w hSw
       go_simp
      try simp only [List.getElem_toArray, List.getElem_cons_succ, List.getElem_cons_zero, Act.put, List.setIfInBounds_toArray, List.set_cons_zero, List.set_cons_succ]
      refine wpAnyD_one (i := 3) rfl (by kernel_rfl) (fun K' hK_ => ?_)
      rw [if_pos (by kernel_rfl)]
      refine oper_callR (run_call1 cf_paTypeName) ?_
      refine (uH hHt _ (uH hP)).mono ?_
      rintro e W9 hBad
      obtain rfl := hBad.1
      have hG := zH (hBad.pre (uH hM))
      clear hBad
      go_wp2
      exact ⟨rfl, uH hG⟩
     | ok n m =>
      obtain ⟨tk, tt, tc⟩ := n
      rw [hrt] at hHt hne
      simp only [snoc, one] at hne ⊢
      have hneb : blkA L f m 0 ≠ .out := fun e => hne (by rw [e])
      have hHb := zH (fun w h => S.blk w m 0 h (by omega) hneb)
      clear hne S
      cases hrb : blkA L f m 0 with
      | out => exact absurd hrb hneb
      | bad j2 =>
       rw [hrb] at hHb
       dsimp only
       have hP := zH (h.alloc (.cells #[.int .i64 0, .int .i64 0, .slice none 0 0] 24 (0, 0))).1
       have hM := zH (h.alloc (.cells #[.int .i64 0, .int .i64 0, .slice none 0 0] 24 (0, 0))).2
       have hN := zH (nblk_new w 0 0 none 0 0)
       obtain ⟨gb, hgb⟩ : ∃ gb, w.heap.size = gb := ⟨_, rfl⟩
       have hz : (w.alloc (.cells #[.int .i64 0, .int .i64 0, .slice none 0 0] 24 (0, 0))).heap.size = gb + 1 := by simp [hgb]
       have hgl : g < gb := by have := h.lt; omega
       rw [hgb] at hN
       obtain ⟨W1, hq_W1⟩ : ∃ W1, w.alloc (.cells #[.int .i64 0, .int .i64 0, .slice none 0 0] 24 (0, 0)) = W1 := ⟨_, rfl⟩
       rw [hq_W1] at hP hM hN hz
       replace hz := And.intro (Nat.le_of_eq hz) (Nat.le_of_eq hz.symm)
       replace h := zH h
       have hmf : ∀ (fn : Fn) (first cap : Array Value) (w : World), (Instr.makeFunc fn first cap).run Tryz.prog w = .ok (.func fn first cap) w := fun _ _ _ _ => rfl
       go_enter Tryz.func91, Tryz.ntmps91
       go_wp2_with fail
       clear hq_W1
       refine (paNamed_yes (uH hP) 8 h1).mono ?_
       rintro e W2 ⟨a1, m1, c1, rfl, hs, h2, hm⟩
       have hzs := hm.size
       have hs1 := zH (hs.mono (P' := fun x => gb < x ∧ x < W2.heap.size) (fun x hx => by have := (uH hN).lt; have e1 := hx.1; have e2 := hx.lt; exact ⟨by omega, by omega⟩))
       clear hs
       replace hN := zH ((uH hN).mop (uH hP) hm)
       have hzz := hm.size
       replace hM := zH ((uH hM).trans hm)
       replace hP := zH h2
       clear hm h2
       dsimp only at hs1 ⊢
       obtain rfl := sl_empty (uH hs1)
       obtain ⟨b1, hq_b1⟩ : ∃ x, W2.heap.size = x := ⟨_, rfl⟩
       have hB := zH (nblk_new W2 8 i a1 0 c1)
       have hm := mop_below (g := g) (below_alloc W2 (.cells #[.int .i64 8, .int .i64 i, .slice a1 0 c1] 24 (0, 0)))
       have h2 := (uH hP).below (below_alloc W2 (.cells #[.int .i64 8, .int .i64 i, .slice a1 0 c1] 24 (0, 0)))
       have hzs : (W2.alloc (.cells #[.int .i64 8, .int .i64 i, .slice a1 0 c1] 24 (0, 0))).heap.size = b1 + 1 := by simp [hq_b1]
       obtain ⟨W3, hq_W3⟩ : ∃ x, W2.alloc (.cells #[.int .i64 8, .int .i64 i, .slice a1 0 c1] 24 (0, 0)) = x := ⟨_, rfl⟩
       rw [hq_W3] at hB hm h2 hzs
       replace hzs := And.intro (Nat.le_of_eq hzs) (Nat.le_of_eq hzs.symm)
       rw [hq_b1] at hB
       replace hq_W3 := zH hq_W3
       replace hN := zH ((uH hN).mop (uH hP) hm)
       replace hs1 := zH ((uH hs1).mop (uH hP) hm)
       have hzz := hm.size
       replace hM := zH ((uH hM).trans hm)
       replace hP := zH h2
       clear hm h2
       go_wp2_with fail
       rw [uH hq_W3]
       clear hq_W3
       refine (paOp_any _ _).mono ?_
       rintro e W4 ⟨rfl, hb⟩
       have h2 := (uH hP).below hb
       have hm := mop_below (g := g) hb
       clear hb
       replace hN := zH ((uH hN).mop (uH hP) hm)
       replace hB := zH ((uH hB).mop (uH hP) hm)
       replace hs1 := zH ((uH hs1).mop (uH hP) hm)
       have hzz := hm.size
       replace hM := zH ((uH hM).trans hm)
       replace hP := zH h2
       clear hm h2
       go_wp2_with fail
       refine (paWant_yes (uH hP) (opT [40]) (by rw [eqB_op]; exact h2) (opA_lt h2)).mono ?_
       rintro e W5 ⟨rfl, h2, hm⟩
       replace hN := zH ((uH hN).mop (uH hP) hm)
       replace hB := zH ((uH hB).mop (uH hP) hm)
       replace hs1 := zH ((uH hs1).mop (uH hP) hm)
       have hzz := hm.size
       replace hM := zH ((uH hM).trans hm)
       replace hP := zH h2
       clear hm h2
       go_wp2_with fail
       have hbl := (uH hB).lt
       refine (uH hH _ (uH hP)).mono ?_
       rintro e W6 ⟨al, cl, rfl, hs, h2, hm⟩
       have hzs := hm.size
       have hRlt := hs.lt
       have hR := zH ((hs.mono (P' := fun x => gb < x ∧ x ≠ b1) (fun x hx _ => ⟨by omega, by omega⟩)).base (B' := gb + 1) (fun y hy => by have := hRlt y hy; omega))
       have hRo : Hid (∀ y, (Value.slice al l.len cl).ownBlock = some y → y ≠ b1) := zH (fun y hy => by have := hRlt y hy; omega)
       clear hs hRlt hbl
       replace hN := zH ((uH hN).mop (uH hP) hm)
       replace hB := zH ((uH hB).mop (uH hP) hm)
       replace hs1 := zH ((uH hs1).mop (uH hP) hm)
       have hzz := hm.size
       replace hM := zH ((uH hM).trans hm)
       replace hP := zH h2
       clear hm h2
       obtain ⟨p0_hB, p1_hB, p2_hB⟩ := (uH hB).box
       have f0_hB := (uH hB).frozen 0
       have f1_hB := (uH hB).frozen 1
       have f2_hB := (uH hB).frozen 2
       obtain ⟨h2, hM2, hB2, hh⟩ := kid_set (uH hP) (uH hM) (uH hB) (by omega) al l.len cl
       have hzz : (W6.setCell ⟨b1, 2, none⟩ (.slice al l.len cl)).heap.size = W6.heap.size := by simp
       obtain ⟨W7, hq_W7⟩ : ∃ x, W6.setCell ⟨b1, 2, none⟩ (.slice al l.len cl) = x := ⟨_, rfl⟩
       rw [hq_W7] at h2 hM2 hB2 hh hzz
       replace hzz := And.intro (Nat.le_of_eq hzz) (Nat.le_of_eq hzz.symm)
       replace hR := zH ((uH hR).keep2 (w' := W7) (by omega) (fun y hy => hh y (uH hRo y hy)) (fun y hy _ => hh y hy.2))
       replace hN := zH ((uH hN).same (hh _ (by omega)))
       replace hs1 := zH ((uH hs1).keep (w' := W7) (fun x hx => hh x (by have e1 := hx.1; omega)))
       replace hB := zH hB2
       replace hM := zH hM2
       replace hP := zH h2
       clear hB2 hM2 h2 hh
       go_wp2_with fail
       clear hq_W7
       have hK := paIsKind_any (uH hP) 1
       rw [hk] at hK
       refine (hK).mono ?_
       rintro e W8 ⟨rfl, hb⟩
       have h2 := (uH hP).below hb
       have hm := mop_below (g := g) hb
       clear hb
       replace hN := zH ((uH hN).mop (uH hP) hm)
       replace hB := zH ((uH hB).mop (uH hP) hm)
       replace hR := zH ((uH hR).mop (uH hP) hm)
       have hzz := hm.size
       replace hM := zH ((uH hM).trans hm)
       replace hP := zH h2
       clear hm h2
       go_upto_region 5 with fail
       have hb : Below W8.heap.size W8 (World.drew W8) := (Below.refl _ _).drew
       have h2 := (uH hP).below hb
       have hm := mop_below (g := g) hb
       clear hb
       obtain ⟨WD, hq_WD⟩ : ∃ x, World.drew W8 = x := ⟨_, rfl⟩
       rw [hq_WD] at h2 hm
       replace hN := zH ((uH hN).mop (uH hP) hm)
       replace hB := zH ((uH hB).mop (uH hP) hm)
       replace hR := zH ((uH hR).mop (uH hP) hm)
       have hzz := hm.size
       replace hM := zH ((uH hM).trans hm)
       replace hP := zH h2
       clear hm h2
       have hS : NBlk WD b1 8 i al l.len cl := uH hB
       refine wp_region_D (fun w' => NBlk w' b1 8 i al l.len cl) (fun j => [7].contains j) (by kernel_rfl) ?_
       rw [hq_WD]
       clear hq_WD
       have hbl := (uH hB).lt
       have hRl := (uH hR).lt
       refine wpAnyD_takeC (i := 0) (v := .pointer (some ⟨b1, 2, none⟩)) [7] (fun _ => rfl) rfl (by kernel_rfl) 3 (by kernel_rfl) rfl (by kernel_rfl) (by kernel_rfl) (by kernel_rfl) (fun _ _ _ h => h) (Or.inl ⟨by kernel_rfl, ?_⟩) hS ?_
       ·
        intro w hSw
        go_simp
       try simp only [List.getElem_toArray, List.getElem_cons_succ, List.getElem_cons_zero, Act.put, List.setIfInBounds_toArray, List.set_cons_zero, List.set_cons_succ]
       refine wpAnyD_takeC (i := 1) (v := .slice al l.len cl) [7] (fun _ => rfl) rfl (by kernel_rfl) 3 (by kernel_rfl) rfl (by kernel_rfl) (by kernel_rfl) (by kernel_rfl) (fun _ _ _ h => h) (Or.inl ⟨by kernel_rfl, ?_⟩) hS ?_
       ·
        intro w hSw
        obtain ⟨e0, e1, e2⟩ := hSw.box
        go_simp
       try simp only [List.getElem_toArray, List.getElem_cons_succ, List.getElem_cons_zero, Act.put, List.setIfInBounds_toArray, List.set_cons_zero, List.set_cons_succ]
       refine wpAnyD_takeC (i := 2) (v := .pointer (some ⟨g, 0, none⟩)) [7] (fun _ => rfl) rfl (by kernel_rfl) 3 (by kernel_rfl) rfl (by kernel_rfl) (by kernel_rfl) (by kernel_rfl) (fun _ _ _ h => h) (Or.inl ⟨by kernel_rfl, ?_⟩) hS ?_
       ·
        intro w hSw
        go_simp
       try simp only [List.getElem_toArray, List.getElem_cons_succ, List.getElem_cons_zero, Act.put, List.setIfInBounds_toArray, List.set_cons_zero, List.set_cons_succ]
       refine wpAnyD_one (i := 3) rfl (by kernel_rfl) (fun K' hK_ => ?_)
       rw [if_pos (by kernel_rfl)]
       refine oper_callR (run_call1 cf_paTypeName) ?_
       refine (uH hHt _ (uH hP)).mono ?_
       rintro e W9 ⟨a2, m2, c2, rfl, hs, h2, hm⟩
       dsimp only at hs
       have hzs := hm.size
       have hs2 := zH (hs.mono (P' := fun x => (gb < x ∧ x ≠ b1) ∧ (Value.slice al l.len cl).ownBlock ≠ some x) (fun x hx => by have e1 := hx.1; exact ⟨⟨by omega, by omega⟩, fun e => by have := hRl x e; omega⟩))
       clear hs
       replace hN := zH ((uH hN).mop (uH hP) hm)
       replace hB := zH ((uH hB).mop (uH hP) hm)
       replace hR := zH ((uH hR).mop (uH hP) hm)
       have hzz := hm.size
       replace hM := zH ((uH hM).trans hm)
       replace hP := zH h2
       clear hm h2
       have hSW9 : NBlk W9 b1 8 i al l.len cl := uH hB
       refine hK_ _ _ (fun _ => hSW9) ?_
       clear hK_ K' hS
       have hS := hSW9
       try simp only [List.getElem_toArray, List.getElem_cons_succ, List.getElem_cons_zero, Act.put, List.setIfInBounds_toArray, List.set_cons_zero, List.set_cons_succ]
       refine wpAnyD_one (i := 4) rfl (by kernel_rfl) (fun K' hK_ => ?_)
       rw [if_pos (by kernel_rfl)]
       refine oper_of_run (run_build_one W9 _ _ _ _ _ _ _ tk tt a2 m2 c2 rfl) ?_
       have hbl2 := (uH hB).lt
       have hL := (lit1_sl (P := fun x => (gb < x ∧ x ≠ b1) ∧ (Value.slice al l.len cl).ownBlock ≠ some x) W9 tk tt a2 m2 c2 tc (uH hs2) ⟨⟨by omega, by omega⟩, fun e => by have := hRl _ e; omega⟩).mono (P' := fun x => (gb < x ∧ x ≠ b1) ∧ (Value.slice al l.len cl).ownBlock ≠ some x ∧ x < (W9.alloc (.cells #[.int .i64 tk, .int .i64 tt, .slice a2 m2 c2] 24 (0, 0))).heap.size) (fun x hx => ⟨hx.1.1, hx.1.2, hx.lt⟩)
       have hm := mop_below (g := g) (below_alloc W9 (.cells #[.int .i64 tk, .int .i64 tt, .slice a2 m2 c2] 24 (0, 0)))
       have h2 := (uH hP).below (below_alloc W9 (.cells #[.int .i64 tk, .int .i64 tt, .slice a2 m2 c2] 24 (0, 0)))
       obtain ⟨gl, hgl2⟩ : ∃ x, W9.heap.size = x := ⟨_, rfl⟩
       have hzz : (W9.alloc (.cells #[.int .i64 tk, .int .i64 tt, .slice a2 m2 c2] 24 (0, 0))).heap.size = gl + 1 := by simp [hgl2]
       obtain ⟨W10, hq_W10⟩ : ∃ x, W9.alloc (.cells #[.int .i64 tk, .int .i64 tt, .slice a2 m2 c2] 24 (0, 0)) = x := ⟨_, rfl⟩
       rw [hq_W10] at hL hm h2 hzz
       rw [hgl2] at hL
       replace hzz := And.intro (Nat.le_of_eq hzz) (Nat.le_of_eq hzz.symm)
       rw [hq_W10, hgl2]
       clear hq_W10 hs2
       replace hL := zH hL
       replace hN := zH ((uH hN).mop (uH hP) hm)
       replace hB := zH ((uH hB).mop (uH hP) hm)
       replace hR := zH ((uH hR).mop (uH hP) hm)
       have hzz := hm.size
       replace hM := zH ((uH hM).trans hm)
       replace hP := zH h2
       clear hm h2
       have hSW10 : NBlk W10 b1 8 i al l.len cl := uH hB
       refine hK_ _ _ (fun _ => hSW10) ?_
       clear hK_ K' hS
       have hS := hSW10
       try simp only [List.getElem_toArray, List.getElem_cons_succ, List.getElem_cons_zero, Act.put, List.setIfInBounds_toArray, List.set_cons_zero, List.set_cons_succ]
       refine wpAnyD_one (i := 5) rfl (by kernel_rfl) (fun K' hK_ => ?_)
       rw [if_pos (by kernel_rfl)]
       refine oper_append_rowP (.tmp 17) (.tmp 20) rfl rfl (uH hR) rfl (uH hL) (by have := uH hnl; omega) (by omega) ?_
       intro v4 W11 hR4 hb4 hg4 hl4
       have hzg := hg4.size
       have hbl3 := (uH hB).lt
       have hbm := hb4.mono (show w.heap.size ≤ gb + 1 by omega)
       have h2 := (uH hP).belowB (uH h) hbm
       have hM4 := mop_belowB (uH h) hbm (by omega) (uH hM)
       replace hN := zH ((uH hN).same (hb4.block _ (by omega)))
       replace hB := zH ((uH hB).same (hg4.block _ hbl3 (fun e => uH hRo _ e.symm rfl)))
       replace hP := zH h2
       replace hM := zH hM4
       have hRo4 : Hid (∀ y, v4.ownBlock = some y → y ≠ b1) := zH (fun y hy => by
        rcases hl4 with e | e
        ·
         exact uH hRo y (e ▸ hy)
        ·
         rw [e] at hy
         injection hy with hy
         omega)
       replace hRo := hRo4
       obtain ⟨a5, c5, rfl, _⟩ := hR4.slO (fun y hy => ⟨by have := hR4.lt y hy; omega, uH hRo y hy⟩)
       replace hR := zH hR4
       clear hR4 hb4 hg4 hl4 hbm h2 hM4 hL hRo4
       have hSW11 : NBlk W11 b1 8 i al l.len cl := uH hB
       refine hK_ _ _ (fun _ => hSW11) ?_
       clear hK_ K' hS
       have hS := hSW11
       try simp only [List.getElem_toArray, List.getElem_cons_succ, List.getElem_cons_zero, Act.put, List.setIfInBounds_toArray, List.set_cons_zero, List.set_cons_succ]
       refine wpAnyD_one (i := 6) rfl (by kernel_rfl) (fun K' hK_ => ?_)
       rw [if_pos (by kernel_rfl)]
       refine oper_of_run (v := .pointer (some ⟨b1, 2, none⟩)) (w' := W11) (by clear hK_; go_simp) ?_
       refine hK_ _ _ (fun _ => hS) ?_
       clear hK_ K'
       try simp only [List.getElem_toArray, List.getElem_cons_succ, List.getElem_cons_zero, Act.put, List.setIfInBounds_toArray, List.set_cons_zero, List.set_cons_succ]
       refine wpAnyD_one (i := 7) rfl (by kernel_rfl) (fun K' hK_ => ?_)
       rw [if_pos (by kernel_rfl)]
       refine oper_skip (run_store_kids W11 _ _ _ _ _ _ _ _ b1 8 i al a5 l.len cl (F.app l (.cons tk tt tc .nil)).len c5 (uH hB) rfl rfl) ?_
       obtain ⟨h2, hM2, hB2, hh⟩ := kid_set (uH hP) (uH hM) (uH hB) (by omega) a5 (F.app l (.cons tk tt tc .nil)).len c5
       have hzz : (W11.setCell ⟨b1, 2, none⟩ (.slice a5 (F.app l (.cons tk tt tc .nil)).len c5)).heap.size = W11.heap.size := by simp
       obtain ⟨W12, hq_W12⟩ : ∃ x, W11.setCell ⟨b1, 2, none⟩ (.slice a5 (F.app l (.cons tk tt tc .nil)).len c5) = x := ⟨_, rfl⟩
       rw [hq_W12] at h2 hM2 hB2 hh hzz
       replace hzz := And.intro (Nat.le_of_eq hzz) (Nat.le_of_eq hzz.symm)
       replace hR := zH ((uH hR).keep2 (w' := W12) (by omega) (fun y hy => hh y (uH hRo y hy)) (fun y hy _ => hh y hy.2))
       replace hN := zH ((uH hN).same (hh _ (by omega)))
       replace hB := zH hB2
       replace hM := zH hM2
       replace hP := zH h2
       clear hB2 hM2 h2 hh
       rw [hq_W12]
       clear hq_W12
       refine hK_ _ _ (fun h => by cases h) ?_
       clear hK_ K'
       try simp only [List.getElem_toArray, List.getElem_cons_succ, List.getElem_cons_zero, Act.put, List.setIfInBounds_toArray, List.set_cons_zero, List.set_cons_succ]
       clear hS
       refine wpAnyD_done (by kernel_rfl) ?_ _
       go_upto_region 6 with fail
       have hb : Below W12.heap.size W12 (World.drew W12) := (Below.refl _ _).drew
       have h2 := (uH hP).below hb
       have hm := mop_below (g := g) hb
       clear hb
       obtain ⟨WD, hq_WD⟩ : ∃ x, World.drew W12 = x := ⟨_, rfl⟩
       rw [hq_WD] at h2 hm
       replace hN := zH ((uH hN).mop (uH hP) hm)
       replace hB := zH ((uH hB).mop (uH hP) hm)
       replace hR := zH ((uH hR).mop (uH hP) hm)
       have hzz := hm.size
       replace hM := zH ((uH hM).trans hm)
       replace hP := zH h2
       clear hm h2
       have hS : NBlk WD b1 8 i a5 (F.app l (.cons tk tt tc .nil)).len c5 := uH hB
       refine wp_region_D (fun w' => NBlk w' b1 8 i a5 (F.app l (.cons tk tt tc .nil)).len c5) (fun j => [7].contains j) (by kernel_rfl) ?_
       rw [hq_WD]
       clear hq_WD
       have hbl := (uH hB).lt
       have hRl := (uH hR).lt
       refine wpAnyD_takeC (i := 0) (v := .pointer (some ⟨b1, 2, none⟩)) [7] (fun _ => rfl) rfl (by kernel_rfl) 3 (by kernel_rfl) rfl (by kernel_rfl) (by kernel_rfl) (by kernel_rfl) (fun _ _ _ h => h) (Or.inl ⟨by kernel_rfl, ?_⟩) hS ?_
       ·
        intro w hSw
        go_simp
       try simp only [List.getElem_toArray, List.getElem_cons_succ, List.getElem_cons_zero, Act.put, List.setIfInBounds_toArray, List.set_cons_zero, List.set_cons_succ]
       refine wpAnyD_takeC (i := 1) (v := .slice a5 (F.app l (.cons tk tt tc .nil)).len c5) [7] (fun _ => rfl) rfl (by kernel_rfl) 3 (by kernel_rfl) rfl (by kernel_rfl) (by kernel_rfl) (by kernel_rfl) (fun _ _ _ h => h) (Or.inl ⟨by kernel_rfl, ?_⟩) hS ?_
       ·
        intro w hSw
        obtain ⟨e0, e1, e2⟩ := hSw.box
        go_simp
       try simp only [List.getElem_toArray, List.getElem_cons_succ, List.getElem_cons_zero, Act.put, List.setIfInBounds_toArray, List.set_cons_zero, List.set_cons_succ]
       refine wpAnyD_takeC (i := 2) (v := .pointer (some ⟨g, 0, none⟩)) [7] (fun _ => rfl) rfl (by kernel_rfl) 3 (by kernel_rfl) rfl (by kernel_rfl) (by kernel_rfl) (by kernel_rfl) (fun _ _ _ h => h) (Or.inl ⟨by kernel_rfl, ?_⟩) hS ?_
       ·
        intro w hSw
        go_simp
       try simp only [List.getElem_toArray, List.getElem_cons_succ, List.getElem_cons_zero, Act.put, List.setIfInBounds_toArray, List.set_cons_zero, List.set_cons_succ]
       refine wpAnyD_one (i := 3) rfl (by kernel_rfl) (fun K' hK_ => ?_)
       rw [if_pos (by kernel_rfl)]
       refine oper_callR (run_call1 cf_paBlock) ?_
       refine (uH hHb _ (uH hP)).mono ?_
       rintro e W13 hBad
       obtain rfl := hBad.1
       have hG := zH (hBad.pre (uH hM))
       clear hBad
       go_wp2
       exact ⟨rfl, uH hG⟩
      | ok b j2 =>
       obtain ⟨bk, bt, bb⟩ := b
       rw [hrb] at hHb
       simp only [snoc, one]
       have hP := zH (h.alloc (.cells #[.int .i64 0, .int .i64 0, .slice none 0 0] 24 (0, 0))).1
       have hM := zH (h.alloc (.cells #[.int .i64 0, .int .i64 0, .slice none 0 0] 24 (0, 0))).2
       have hN := zH (nblk_new w 0 0 none 0 0)
       obtain ⟨gb, hgb⟩ : ∃ gb, w.heap.size = gb := ⟨_, rfl⟩
       have hz : (w.alloc (.cells #[.int .i64 0, .int .i64 0, .slice none 0 0] 24 (0, 0))).heap.size = gb + 1 := by simp [hgb]
       have hgl : g < gb := by have := h.lt; omega
       rw [hgb] at hN
       obtain ⟨W1, hq_W1⟩ : ∃ W1, w.alloc (.cells #[.int .i64 0, .int .i64 0, .slice none 0 0] 24 (0, 0)) = W1 := ⟨_, rfl⟩
       rw [hq_W1] at hP hM hN hz
       replace hz := And.intro (Nat.le_of_eq hz) (Nat.le_of_eq hz.symm)
       replace h := zH h
       have hmf : ∀ (fn : Fn) (first cap : Array Value) (w : World), (Instr.makeFunc fn first cap).run Tryz.prog w = .ok (.func fn first cap) w := fun _ _ _ _ => rfl
       go_enter Tryz.func91, Tryz.ntmps91
       go_wp2_with fail
       clear hq_W1
       refine (paNamed_yes (uH hP) 8 h1).mono ?_
       rintro e W2 ⟨a1, m1, c1, rfl, hs, h2, hm⟩
       have hzs := hm.size
       have hs1 := zH (hs.mono (P' := fun x => gb < x ∧ x < W2.heap.size) (fun x hx => by have := (uH hN).lt; have e1 := hx.1; have e2 := hx.lt; exact ⟨by omega, by omega⟩))
       clear hs
       replace hN := zH ((uH hN).mop (uH hP) hm)
       have hzz := hm.size
       replace hM := zH ((uH hM).trans hm)
       replace hP := zH h2
       clear hm h2
       dsimp only at hs1 ⊢
       obtain rfl := sl_empty (uH hs1)
       obtain ⟨b1, hq_b1⟩ : ∃ x, W2.heap.size = x := ⟨_, rfl⟩
       have hB := zH (nblk_new W2 8 i a1 0 c1)
       have hm := mop_below (g := g) (below_alloc W2 (.cells #[.int .i64 8, .int .i64 i, .slice a1 0 c1] 24 (0, 0)))
       have h2 := (uH hP).below (below_alloc W2 (.cells #[.int .i64 8, .int .i64 i, .slice a1 0 c1] 24 (0, 0)))
       have hzs : (W2.alloc (.cells #[.int .i64 8, .int .i64 i, .slice a1 0 c1] 24 (0, 0))).heap.size = b1 + 1 := by simp [hq_b1]
       obtain ⟨W3, hq_W3⟩ : ∃ x, W2.alloc (.cells #[.int .i64 8, .int .i64 i, .slice a1 0 c1] 24 (0, 0)) = x := ⟨_, rfl⟩
       rw [hq_W3] at hB hm h2 hzs
       replace hzs := And.intro (Nat.le_of_eq hzs) (Nat.le_of_eq hzs.symm)
       rw [hq_b1] at hB
       replace hq_W3 := zH hq_W3
       replace hN := zH ((uH hN).mop (uH hP) hm)
       replace hs1 := zH ((uH hs1).mop (uH hP) hm)
       have hzz := hm.size
       replace hM := zH ((uH hM).trans hm)
       replace hP := zH h2
       clear hm h2
       go_wp2_with fail
       rw [uH hq_W3]
       clear hq_W3
       refine (paOp_any _ _).mono ?_
       rintro e W4 ⟨rfl, hb⟩
       have h2 := (uH hP).below hb
       have hm := mop_below (g := g) hb
       clear hb
       replace hN := zH ((uH hN).mop (uH hP) hm)
       replace hB := zH ((uH hB).mop (uH hP) hm)
       replace hs1 := zH ((uH hs1).mop (uH hP) hm)
       have hzz := hm.size
       replace hM := zH ((uH hM).trans hm)
       replace hP := zH h2
       clear hm h2
       go_wp2_with fail
       refine (paWant_yes (uH hP) (opT [40]) (by rw [eqB_op]; exact h2) (opA_lt h2)).mono ?_
       rintro e W5 ⟨rfl, h2, hm⟩
       replace hN := zH ((uH hN).mop (uH hP) hm)
       replace hB := zH ((uH hB).mop (uH hP) hm)
       replace hs1 := zH ((uH hs1).mop (uH hP) hm)
       have hzz := hm.size
       replace hM := zH ((uH hM).trans hm)
       replace hP := zH h2
       clear hm h2
       go_wp2_with fail
       have hbl := (uH hB).lt
       refine (uH hH _ (uH hP)).mono ?_
       rintro e W6 ⟨al, cl, rfl, hs, h2, hm⟩
       have hzs := hm.size
       have hRlt := hs.lt
       have hR := zH ((hs.mono (P' := fun x => gb < x ∧ x ≠ b1) (fun x hx _ => ⟨by omega, by omega⟩)).base (B' := gb + 1) (fun y hy => by have := hRlt y hy; omega))
       have hRo : Hid (∀ y, (Value.slice al l.len cl).ownBlock = some y → y ≠ b1) := zH (fun y hy => by have := hRlt y hy; omega)
       clear hs hRlt hbl
       replace hN := zH ((uH hN).mop (uH hP) hm)
       replace hB := zH ((uH hB).mop (uH hP) hm)
       replace hs1 := zH ((uH hs1).mop (uH hP) hm)
       have hzz := hm.size
       replace hM := zH ((uH hM).trans hm)
       replace hP := zH h2
       clear hm h2
       obtain ⟨p0_hB, p1_hB, p2_hB⟩ := (uH hB).box
       have f0_hB := (uH hB).frozen 0
       have f1_hB := (uH hB).frozen 1
       have f2_hB := (uH hB).frozen 2
       obtain ⟨h2, hM2, hB2, hh⟩ := kid_set (uH hP) (uH hM) (uH hB) (by omega) al l.len cl
       have hzz : (W6.setCell ⟨b1, 2, none⟩ (.slice al l.len cl)).heap.size = W6.heap.size := by simp
       obtain ⟨W7, hq_W7⟩ : ∃ x, W6.setCell ⟨b1, 2, none⟩ (.slice al l.len cl) = x := ⟨_, rfl⟩
       rw [hq_W7] at h2 hM2 hB2 hh hzz
       replace hzz := And.intro (Nat.le_of_eq hzz) (Nat.le_of_eq hzz.symm)
       replace hR := zH ((uH hR).keep2 (w' := W7) (by omega) (fun y hy => hh y (uH hRo y hy)) (fun y hy _ => hh y hy.2))
       replace hN := zH ((uH hN).same (hh _ (by omega)))
       replace hs1 := zH ((uH hs1).keep (w' := W7) (fun x hx => hh x (by have e1 := hx.1; omega)))
       replace hB := zH hB2
       replace hM := zH hM2
       replace hP := zH h2
       clear hB2 hM2 h2 hh
       go_wp2_with fail
       clear hq_W7
       have hK := paIsKind_any (uH hP) 1
       rw [hk] at hK
       refine (hK).mono ?_
       rintro e W8 ⟨rfl, hb⟩
       have h2 := (uH hP).below hb
       have hm := mop_below (g := g) hb
       clear hb
       replace hN := zH ((uH hN).mop (uH hP) hm)
       replace hB := zH ((uH hB).mop (uH hP) hm)
       replace hR := zH ((uH hR).mop (uH hP) hm)
       have hzz := hm.size
       replace hM := zH ((uH hM).trans hm)
       replace hP := zH h2
       clear hm h2
       go_upto_region 5 with fail
       have hb : Below W8.heap.size W8 (World.drew W8) := (Below.refl _ _).drew
       have h2 := (uH hP).below hb
       have hm := mop_below (g := g) hb
       clear hb
       obtain ⟨WD, hq_WD⟩ : ∃ x, World.drew W8 = x := ⟨_, rfl⟩
       rw [hq_WD] at h2 hm
       replace hN := zH ((uH hN).mop (uH hP) hm)
       replace hB := zH ((uH hB).mop (uH hP) hm)
       replace hR := zH ((uH hR).mop (uH hP) hm)
       have hzz := hm.size
       replace hM := zH ((uH hM).trans hm)
       replace hP := zH h2
       clear hm h2
       have hS : NBlk WD b1 8 i al l.len cl := uH hB
       refine wp_region_D (fun w' => NBlk w' b1 8 i al l.len cl) (fun j => [7].contains j) (by kernel_rfl) ?_
       rw [hq_WD]
       clear hq_WD
       have hbl := (uH hB).lt
       have hRl := (uH hR).lt
       refine wpAnyD_takeC (i := 0) (v := .pointer (some ⟨b1, 2, none⟩)) [7] (fun _ => rfl) rfl (by kernel_rfl) 3 (by kernel_rfl) rfl (by kernel_rfl) (by kernel_rfl) (by kernel_rfl) (fun _ _ _ h => h) (Or.inl ⟨by kernel_rfl, ?_⟩) hS ?_
       ·
        intro w hSw
        go_simp
       try simp only [List.getElem_toArray, List.getElem_cons_succ, List.getElem_cons_zero, Act.put, List.setIfInBounds_toArray, List.set_cons_zero, List.set_cons_succ]
       refine wpAnyD_takeC (i := 1) (v := .slice al l.len cl) [7] (fun _ => rfl) rfl (by kernel_rfl) 3 (by kernel_rfl) rfl (by kernel_rfl) (by kernel_rfl) (by kernel_rfl) (fun _ _ _ h => h) (Or.inl ⟨by kernel_rfl, ?_⟩) hS ?_
       ·
        intro w hSw
        obtain ⟨e0, e1, e2⟩ := hSw.box
        go_simp
       try simp only [List.getElem_toArray, List.getElem_cons_succ, List.getElem_cons_zero, Act.put, List.setIfInBounds_toArray, List.set_cons_zero, List.set_cons_succ]
       refine wpAnyD_takeC (i := 2) (v := .pointer (some ⟨g, 0, none⟩)) [7] (fun _ => rfl) rfl (by kernel_rfl) 3 (by kernel_rfl) rfl (by kernel_rfl) (by kernel_rfl) (by kernel_rfl) (fun _ _ _ h => h) (Or.inl ⟨by kernel_rfl, ?_⟩) hS ?_
       ·
        intro w hSw
        go_simp
       try simp only [List.getElem_toArray, List.getElem_cons_succ, List.getElem_cons_zero, Act.put, List.setIfInBounds_toArray, List.set_cons_zero, List.set_cons_succ]
       refine wpAnyD_one (i := 3) rfl (by kernel_rfl) (fun K' hK_ => ?_)
       rw [if_pos (by kernel_rfl)]
       refine oper_callR (run_call1 cf_paTypeName) ?_
       refine (uH hHt _ (uH hP)).mono ?_
       rintro e W9 ⟨a2, m2, c2, rfl, hs, h2, hm⟩
       dsimp only at hs
       have hzs := hm.size
       have hs2 := zH (hs.mono (P' := fun x => (gb < x ∧ x ≠ b1) ∧ (Value.slice al l.len cl).ownBlock ≠ some x) (fun x hx => by have e1 := hx.1; exact ⟨⟨by omega, by omega⟩, fun e => by have := hRl x e; omega⟩))
       clear hs
       replace hN := zH ((uH hN).mop (uH hP) hm)
       replace hB := zH ((uH hB).mop (uH hP) hm)
       replace hR := zH ((uH hR).mop (uH hP) hm)
       have hzz := hm.size
       replace hM := zH ((uH hM).trans hm)
       replace hP := zH h2
       clear hm h2
       have hSW9 : NBlk W9 b1 8 i al l.len cl := uH hB
       refine hK_ _ _ (fun _ => hSW9) ?_
       clear hK_ K' hS
       have hS := hSW9
       try simp only [List.getElem_toArray, List.getElem_cons_succ, List.getElem_cons_zero, Act.put, List.setIfInBounds_toArray, List.set_cons_zero, List.set_cons_succ]
       refine wpAnyD_one (i := 4) rfl (by kernel_rfl) (fun K' hK_ => ?_)
       rw [if_pos (by kernel_rfl)]
       refine oper_of_run (run_build_one W9 _ _ _ _ _ _ _ tk tt a2 m2 c2 rfl) ?_
       have hbl2 := (uH hB).lt
       have hL := (lit1_sl (P := fun x => (gb < x ∧ x ≠ b1) ∧ (Value.slice al l.len cl).ownBlock ≠ some x) W9 tk tt a2 m2 c2 tc (uH hs2) ⟨⟨by omega, by omega⟩, fun e => by have := hRl _ e; omega⟩).mono (P' := fun x => (gb < x ∧ x ≠ b1) ∧ (Value.slice al l.len cl).ownBlock ≠ some x ∧ x < (W9.alloc (.cells #[.int .i64 tk, .int .i64 tt, .slice a2 m2 c2] 24 (0, 0))).heap.size) (fun x hx => ⟨hx.1.1, hx.1.2, hx.lt⟩)
       have hm := mop_below (g := g) (below_alloc W9 (.cells #[.int .i64 tk, .int .i64 tt, .slice a2 m2 c2] 24 (0, 0)))
       have h2 := (uH hP).below (below_alloc W9 (.cells #[.int .i64 tk, .int .i64 tt, .slice a2 m2 c2] 24 (0, 0)))
       obtain ⟨gl, hgl2⟩ : ∃ x, W9.heap.size = x := ⟨_, rfl⟩
       have hzz : (W9.alloc (.cells #[.int .i64 tk, .int .i64 tt, .slice a2 m2 c2] 24 (0, 0))).heap.size = gl + 1 := by simp [hgl2]
       obtain ⟨W10, hq_W10⟩ : ∃ x, W9.alloc (.cells #[.int .i64 tk, .int .i64 tt, .slice a2 m2 c2] 24 (0, 0)) = x := ⟨_, rfl⟩
       rw [hq_W10] at hL hm h2 hzz
       rw [hgl2] at hL
       replace hzz := And.intro (Nat.le_of_eq hzz) (Nat.le_of_eq hzz.symm)
       rw [hq_W10, hgl2]
       clear hq_W10 hs2
       replace hL := zH hL
       replace hN := zH ((uH hN).mop (uH hP) hm)
       replace hB := zH ((uH hB).mop (uH hP) hm)
       replace hR := zH ((uH hR).mop (uH hP) hm)
       have hzz := hm.size
       replace hM := zH ((uH hM).trans hm)
       replace hP := zH h2
       clear hm h2
       have hSW10 : NBlk W10 b1 8 i al l.len cl := uH hB
       refine hK_ _ _ (fun _ => hSW10) ?_
       clear hK_ K' hS
       have hS := hSW10
       try simp only [List.getElem_toArray, List.getElem_cons_succ, List.getElem_cons_zero, Act.put, List.setIfInBounds_toArray, List.set_cons_zero, List.set_cons_succ]
       refine wpAnyD_one (i := 5) rfl (by kernel_rfl) (fun K' hK_ => ?_)
       rw [if_pos (by kernel_rfl)]
       refine oper_append_rowP (.tmp 17) (.tmp 20) rfl rfl (uH hR) rfl (uH hL) (by have := uH hnl; omega) (by omega) ?_
       intro v4 W11 hR4 hb4 hg4 hl4
       have hzg := hg4.size
       have hbl3 := (uH hB).lt
       have hbm := hb4.mono (show w.heap.size ≤ gb + 1 by omega)
       have h2 := (uH hP).belowB (uH h) hbm
       have hM4 := mop_belowB (uH h) hbm (by omega) (uH hM)
       replace hN := zH ((uH hN).same (hb4.block _ (by omega)))
       replace hB := zH ((uH hB).same (hg4.block _ hbl3 (fun e => uH hRo _ e.symm rfl)))
       replace hP := zH h2
       replace hM := zH hM4
       have hRo4 : Hid (∀ y, v4.ownBlock = some y → y ≠ b1) := zH (fun y hy => by
        rcases hl4 with e | e
        ·
         exact uH hRo y (e ▸ hy)
        ·
         rw [e] at hy
         injection hy with hy
         omega)
       replace hRo := hRo4
       obtain ⟨a5, c5, rfl, _⟩ := hR4.slO (fun y hy => ⟨by have := hR4.lt y hy; omega, uH hRo y hy⟩)
       replace hR := zH hR4
       clear hR4 hb4 hg4 hl4 hbm h2 hM4 hL hRo4
       have hSW11 : NBlk W11 b1 8 i al l.len cl := uH hB
       refine hK_ _ _ (fun _ => hSW11) ?_
       clear hK_ K' hS
       have hS := hSW11
       try simp only [List.getElem_toArray, List.getElem_cons_succ, List.getElem_cons_zero, Act.put, List.setIfInBounds_toArray, List.set_cons_zero, List.set_cons_succ]
       refine wpAnyD_one (i := 6) rfl (by kernel_rfl) (fun K' hK_ => ?_)
       rw [if_pos (by kernel_rfl)]
       refine oper_of_run (v := .pointer (some ⟨b1, 2, none⟩)) (w' := W11) (by clear hK_; go_simp) ?_
       refine hK_ _ _ (fun _ => hS) ?_
       clear hK_ K'
       try simp only [List.getElem_toArray, List.getElem_cons_succ, List.getElem_cons_zero, Act.put, List.setIfInBounds_toArray, List.set_cons_zero, List.set_cons_succ]
       refine wpAnyD_one (i := 7) rfl (by kernel_rfl) (fun K' hK_ => ?_)
       rw [if_pos (by kernel_rfl)]
       refine oper_skip (run_store_kids W11 _ _ _ _ _ _ _ _ b1 8 i al a5 l.len cl (F.app l (.cons tk tt tc .nil)).len c5 (uH hB) rfl rfl) ?_
       obtain ⟨h2, hM2, hB2, hh⟩ := kid_set (uH hP) (uH hM) (uH hB) (by omega) a5 (F.app l (.cons tk tt tc .nil)).len c5
       have hzz : (W11.setCell ⟨b1, 2, none⟩ (.slice a5 (F.app l (.cons tk tt tc .nil)).len c5)).heap.size = W11.heap.size := by simp
       obtain ⟨W12, hq_W12⟩ : ∃ x, W11.setCell ⟨b1, 2, none⟩ (.slice a5 (F.app l (.cons tk tt tc .nil)).len c5) = x := ⟨_, rfl⟩
       rw [hq_W12] at h2 hM2 hB2 hh hzz
       replace hzz := And.intro (Nat.le_of_eq hzz) (Nat.le_of_eq hzz.symm)
       replace hR := zH ((uH hR).keep2 (w' := W12) (by omega) (fun y hy => hh y (uH hRo y hy)) (fun y hy _ => hh y hy.2))
       replace hN := zH ((uH hN).same (hh _ (by omega)))
       replace hB := zH hB2
       replace hM := zH hM2
       replace hP := zH h2
       clear hB2 hM2 h2 hh
       rw [hq_W12]
       clear hq_W12
       refine hK_ _ _ (fun h => by cases h) ?_
       clear hK_ K'
       try simp only [List.getElem_toArray, List.getElem_cons_succ, List.getElem_cons_zero, Act.put, List.setIfInBounds_toArray, List.set_cons_zero, List.set_cons_succ]
       clear hS
       refine wpAnyD_done (by kernel_rfl) ?_ _
       go_upto_region 6 with fail
       have hb : Below W12.heap.size W12 (World.drew W12) := (Below.refl _ _).drew
       have h2 := (uH hP).below hb
       have hm := mop_below (g := g) hb
       clear hb
       obtain ⟨WD, hq_WD⟩ : ∃ x, World.drew W12 = x := ⟨_, rfl⟩
       rw [hq_WD] at h2 hm
       replace hN := zH ((uH hN).mop (uH hP) hm)
       replace hB := zH ((uH hB).mop (uH hP) hm)
       replace hR := zH ((uH hR).mop (uH hP) hm)
       have hzz := hm.size
       replace hM := zH ((uH hM).trans hm)
       replace hP := zH h2
       clear hm h2
       have hS : NBlk WD b1 8 i a5 (F.app l (.cons tk tt tc .nil)).len c5 := uH hB
       refine wp_region_D (fun w' => NBlk w' b1 8 i a5 (F.app l (.cons tk tt tc .nil)).len c5) (fun j => [7].contains j) (by kernel_rfl) ?_
       rw [hq_WD]
       clear hq_WD
       have hbl := (uH hB).lt
       have hRl := (uH hR).lt
       refine wpAnyD_takeC (i := 0) (v := .pointer (some ⟨b1, 2, none⟩)) [7] (fun _ => rfl) rfl (by kernel_rfl) 3 (by kernel_rfl) rfl (by kernel_rfl) (by kernel_rfl) (by kernel_rfl) (fun _ _ _ h => h) (Or.inl ⟨by kernel_rfl, ?_⟩) hS ?_
       ·
        intro w hSw
        go_simp
       try simp only [List.getElem_toArray, List.getElem_cons_succ, List.getElem_cons_zero, Act.put, List.setIfInBounds_toArray, List.set_cons_zero, List.set_cons_succ]
       refine wpAnyD_takeC (i := 1) (v := .slice a5 (F.app l (.cons tk tt tc .nil)).len c5) [7] (fun _ => rfl) rfl (by kernel_rfl) 3 (by kernel_rfl) rfl (by kernel_rfl) (by kernel_rfl) (by kernel_rfl) (fun _ _ _ h => h) (Or.inl ⟨by kernel_rfl, ?_⟩) hS ?_
       ·
        intro w hSw
        obtain ⟨e0, e1, e2⟩ := hSw.box
        go_simp
       try simp only [List.getElem_toArray, List.getElem_cons_succ, List.getElem_cons_zero, Act.put, List.setIfInBounds_toArray, List.set_cons_zero, List.set_cons_succ]
       refine wpAnyD_takeC (i := 2) (v := .pointer (some ⟨g, 0, none⟩)) [7] (fun _ => rfl) rfl (by kernel_rfl) 3 (by kernel_rfl) rfl (by kernel_rfl) (by kernel_rfl) (by kernel_rfl) (fun _ _ _ h => h) (Or.inl ⟨by kernel_rfl, ?_⟩) hS ?_
       ·
        intro w hSw
        go_simp
       try simp only [List.getElem_toArray, List.getElem_cons_succ, List.getElem_cons_zero, Act.put, List.setIfInBounds_toArray, List.set_cons_zero, List.set_cons_succ]
       refine wpAnyD_one (i := 3) rfl (by kernel_rfl) (fun K' hK_ => ?_)
       rw [if_pos (by kernel_rfl)]
       refine oper_callR (run_call1 cf_paBlock) ?_
       refine (uH hHb _ (uH hP)).mono ?_
       rintro e W13 ⟨a4, m4, c4, rfl, hs, h2, hm⟩
       dsimp only at hs
       have hzs := hm.size
       have hs2 := zH (hs.mono (P' := fun x => (gb < x ∧ x ≠ b1) ∧ (Value.slice a5 (F.app l (.cons tk tt tc .nil)).len c5).ownBlock ≠ some x) (fun x hx => by have e1 := hx.1; exact ⟨⟨by omega, by omega⟩, fun e => by have := hRl x e; omega⟩))
       clear hs
       replace hN := zH ((uH hN).mop (uH hP) hm)
       replace hB := zH ((uH hB).mop (uH hP) hm)
       replace hR := zH ((uH hR).mop (uH hP) hm)
       have hzz := hm.size
       replace hM := zH ((uH hM).trans hm)
       replace hP := zH h2
       clear hm h2
       have hSW13 : NBlk W13 b1 8 i a5 (F.app l (.cons tk tt tc .nil)).len c5 := uH hB
       refine hK_ _ _ (fun _ => hSW13) ?_
       clear hK_ K' hS
       have hS := hSW13
       try simp only [List.getElem_toArray, List.getElem_cons_succ, List.getElem_cons_zero, Act.put, List.setIfInBounds_toArray, List.set_cons_zero, List.set_cons_succ]
       refine wpAnyD_one (i := 4) rfl (by kernel_rfl) (fun K' hK_ => ?_)
       rw [if_pos (by kernel_rfl)]
       refine oper_of_run (run_build_one W13 _ _ _ _ _ _ _ bk bt a4 m4 c4 rfl) ?_
       have hbl2 := (uH hB).lt
       have hL := (lit1_sl (P := fun x => (gb < x ∧ x ≠ b1) ∧ (Value.slice a5 (F.app l (.cons tk tt tc .nil)).len c5).ownBlock ≠ some x) W13 bk bt a4 m4 c4 bb (uH hs2) ⟨⟨by omega, by omega⟩, fun e => by have := hRl _ e; omega⟩).mono (P' := fun x => (gb < x ∧ x ≠ b1) ∧ (Value.slice a5 (F.app l (.cons tk tt tc .nil)).len c5).ownBlock ≠ some x ∧ x < (W13.alloc (.cells #[.int .i64 bk, .int .i64 bt, .slice a4 m4 c4] 24 (0, 0))).heap.size) (fun x hx => ⟨hx.1.1, hx.1.2, hx.lt⟩)
       have hm := mop_below (g := g) (below_alloc W13 (.cells #[.int .i64 bk, .int .i64 bt, .slice a4 m4 c4] 24 (0, 0)))
       have h2 := (uH hP).below (below_alloc W13 (.cells #[.int .i64 bk, .int .i64 bt, .slice a4 m4 c4] 24 (0, 0)))
       obtain ⟨gl, hgl2⟩ : ∃ x, W13.heap.size = x := ⟨_, rfl⟩
       have hzz : (W13.alloc (.cells #[.int .i64 bk, .int .i64 bt, .slice a4 m4 c4] 24 (0, 0))).heap.size = gl + 1 := by simp [hgl2]
       obtain ⟨W14, hq_W14⟩ : ∃ x, W13.alloc (.cells #[.int .i64 bk, .int .i64 bt, .slice a4 m4 c4] 24 (0, 0)) = x := ⟨_, rfl⟩
       rw [hq_W14] at hL hm h2 hzz
       rw [hgl2] at hL
       replace hzz := And.intro (Nat.le_of_eq hzz) (Nat.le_of_eq hzz.symm)
       rw [hq_W14, hgl2]
       clear hq_W14 hs2
       replace hL := zH hL
       replace hN := zH ((uH hN).mop (uH hP) hm)
       replace hB := zH ((uH hB).mop (uH hP) hm)
       replace hR := zH ((uH hR).mop (uH hP) hm)
       have hzz := hm.size
       replace hM := zH ((uH hM).trans hm)
       replace hP := zH h2
       clear hm h2
       have hSW14 : NBlk W14 b1 8 i a5 (F.app l (.cons tk tt tc .nil)).len c5 := uH hB
       refine hK_ _ _ (fun _ => hSW14) ?_
       clear hK_ K' hS
       have hS := hSW14
       try simp only [List.getElem_toArray, List.getElem_cons_succ, List.getElem_cons_zero, Act.put, List.setIfInBounds_toArray, List.set_cons_zero, List.set_cons_succ]
       refine wpAnyD_one (i := 5) rfl (by kernel_rfl) (fun K' hK_ => ?_)
       rw [if_pos (by kernel_rfl)]
       refine oper_append_rowP (.tmp 24) (.tmp 27) rfl rfl (uH hR) rfl (uH hL) (by rw [F.len_app]; simp only [F.len]; have := uH hnl; omega) (by omega) ?_
       intro v4 W15 hR4 hb4 hg4 hl4
       have hzg := hg4.size
       have hbl3 := (uH hB).lt
       have hbm := hb4.mono (show w.heap.size ≤ gb + 1 by omega)
       have h2 := (uH hP).belowB (uH h) hbm
       have hM4 := mop_belowB (uH h) hbm (by omega) (uH hM)
       replace hN := zH ((uH hN).same (hb4.block _ (by omega)))
       replace hB := zH ((uH hB).same (hg4.block _ hbl3 (fun e => uH hRo _ e.symm rfl)))
       replace hP := zH h2
       replace hM := zH hM4
       have hRo4 : Hid (∀ y, v4.ownBlock = some y → y ≠ b1) := zH (fun y hy => by
        rcases hl4 with e | e
        ·
         exact uH hRo y (e ▸ hy)
        ·
         rw [e] at hy
         injection hy with hy
         omega)
       replace hRo := hRo4
       obtain ⟨a6, c6, rfl, _⟩ := hR4.slO (fun y hy => ⟨by have := hR4.lt y hy; omega, uH hRo y hy⟩)
       replace hR := zH hR4
       clear hR4 hb4 hg4 hl4 hbm h2 hM4 hL hRo4
       have hSW15 : NBlk W15 b1 8 i a5 (F.app l (.cons tk tt tc .nil)).len c5 := uH hB
       refine hK_ _ _ (fun _ => hSW15) ?_
       clear hK_ K' hS
       have hS := hSW15
       try simp only [List.getElem_toArray, List.getElem_cons_succ, List.getElem_cons_zero, Act.put, List.setIfInBounds_toArray, List.set_cons_zero, List.set_cons_succ]
       refine wpAnyD_one (i := 6) rfl (by kernel_rfl) (fun K' hK_ => ?_)
       rw [if_pos (by kernel_rfl)]
       refine oper_of_run (v := .pointer (some ⟨b1, 2, none⟩)) (w' := W15) (by clear hK_; go_simp) ?_
       refine hK_ _ _ (fun _ => hS) ?_
       clear hK_ K'
       try simp only [List.getElem_toArray, List.getElem_cons_succ, List.getElem_cons_zero, Act.put, List.setIfInBounds_toArray, List.set_cons_zero, List.set_cons_succ]
       refine wpAnyD_one (i := 7) rfl (by kernel_rfl) (fun K' hK_ => ?_)
       rw [if_pos (by kernel_rfl)]
       refine oper_skip (run_store_kids W15 _ _ _ _ _ _ _ _ b1 8 i a5 a6 (F.app l (.cons tk tt tc .nil)).len c5 (F.app (F.app l (.cons tk tt tc .nil)) (.cons bk bt bb .nil)).len c6 (uH hB) rfl rfl) ?_
       obtain ⟨h2, hM2, hB2, hh⟩ := kid_set (uH hP) (uH hM) (uH hB) (by omega) a6 (F.app (F.app l (.cons tk tt tc .nil)) (.cons bk bt bb .nil)).len c6
       have hzz : (W15.setCell ⟨b1, 2, none⟩ (.slice a6 (F.app (F.app l (.cons tk tt tc .nil)) (.cons bk bt bb .nil)).len c6)).heap.size = W15.heap.size := by simp
       obtain ⟨W16, hq_W16⟩ : ∃ x, W15.setCell ⟨b1, 2, none⟩ (.slice a6 (F.app (F.app l (.cons tk tt tc .nil)) (.cons bk bt bb .nil)).len c6) = x := ⟨_, rfl⟩
       rw [hq_W16] at h2 hM2 hB2 hh hzz
       replace hzz := And.intro (Nat.le_of_eq hzz) (Nat.le_of_eq hzz.symm)
       replace hR := zH ((uH hR).keep2 (w' := W16) (by omega) (fun y hy => hh y (uH hRo y hy)) (fun y hy _ => hh y hy.2))
       replace hN := zH ((uH hN).same (hh _ (by omega)))
       replace hB := zH hB2
       replace hM := zH hM2
       replace hP := zH h2
       clear hB2 hM2 h2 hh
       rw [hq_W16]
       clear hq_W16
       refine hK_ _ _ (fun h => by cases h) ?_
       clear hK_ K'
       try simp only [List.getElem_toArray, List.getElem_cons_succ, List.getElem_cons_zero, Act.put, List.setIfInBounds_toArray, List.set_cons_zero, List.set_cons_succ]
       clear hS
       refine wpAnyD_done (by kernel_rfl) ?_ _
       obtain ⟨p0_hB, p1_hB, p2_hB⟩ := (uH hB).box
       have f0_hB := (uH hB).frozen 0
       have f1_hB := (uH hB).frozen 1
       have f2_hB := (uH hB).frozen 2
       obtain ⟨p0_hN, p1_hN, p2_hN⟩ := (uH hN).box
       have f0_hN := (uH hN).frozen 0
       have f1_hN := (uH hN).frozen 1
       have f2_hN := (uH hN).frozen 2
       have hF := zH (res_finR (k := 8) (t := i) (w := w) (gb := gb) (by omega) (uH hN) (uH hR) (fun x hx => hx.1) (uH hP) (uH hM))
       go_wp2
       obtain ⟨q1, q2, q3, q4⟩ := uH hF
       obtain ⟨u0, u1, u2⟩ := q1.box
       refine bodyPost_ret (v := .agg #[.int .i64 (8), .int .i64 (i), .slice (a6) ((F.app (F.app l (.cons tk tt tc .nil)) (.cons bk bt bb .nil)).len) (c6)]) (by simp [results, Tryz.results91, go_sem, u0, u1, u2]) rfl ?_
       exact ResR.n (r := .ok ⟨8, i, F.app (F.app l (.cons tk tt tc .nil)) (.cons bk bt bb .nil)⟩ j2) ⟨_, _, _, rfl, (by first | exact q2 | (rw [hgb]; exact q2) | exact (q2.mono (fun y hy _ => by omega)).base (fun y hy => by have := q2.lt y hy; omega)), q3, q4⟩
end Go.Proofs.YtiknnobgoamgcaaGreatDoor

/-
  1 texts in one.
-/
import Derived.Test.YtiknnobgoamgcaaGreatDoorB07
/-
  The parser: what a function leaves whose kids are a row of its own; if and for, as far as their block.
-/
namespace Go.Proofs.YtiknnobgoamgcaaGreatDoor
open Go.RowKit Go.Lib Go.Sort
set_option linter.unusedSimpArgs false
set_option linter.unusedVariables false
theorem cf_paExpr (us : Array Value) (W : World) : Sem.run Tryz.prog (callFunc 105 us) W = .ok (.enter 105 us) W := by kernel_rfl
theorem cf_paBlock (us : Array Value) (W : World) : Sem.run Tryz.prog (callFunc 113 us) W = .ok (.enter 113 us) W := by kernel_rfl
/-- A node came whose kids are a row of one's own. -/
def OkR (B : Nat) (g : Nat) (tv : Value) (L : List Tk) (n : Nd) (j d : Nat) (w : World) (e : Ending) (w' : World) : Prop :=
 ∃ (a : Option Addr) (m c : Nat), e = .returned (.agg #[.int .i64 n.k, .int .i64 n.t, .slice a m c]) ∧ RowP (fun x => B ≤ x) w' B (.slice a m c) n.c ∧ PaW g tv L j d w' ∧ MoP g w w'
def ResR (B : Nat) (g : Nat) (tv : Value) (L : List Tk) (d : Nat) (w : World) (r : PR Nd) (e : Ending) (w' : World) : Prop := match r with
 | .out => False
 | .bad j => Bad g tv L j w e w'
 | .ok n j => OkR B g tv L n j d w e w'
theorem OkR.n {B g : Nat} {tv : Value} {L : List Tk} {n : Nd} {j d : Nat} {w w' : World} {e : Ending} (h : OkR B g tv L n j d w e w') : OkN B g tv L n j d w e w' := by
 obtain ⟨a, m, c, h1, h2, h3, h4⟩ := h
 obtain ⟨a', c', e', hs⟩ := h2.sl (fun _ h => h)
 injection e' with e1 e2 e3
 subst e1 e2 e3
 exact ⟨a, _, c, h1, hs, h3, h4⟩
theorem ResR.n {B g : Nat} {tv : Value} {L : List Tk} {d : Nat} {w w' : World} {r : PR Nd} {e : Ending} (h : ResR B g tv L d w r e w') : ResN B g tv L d w r e w' := by
 cases r with
 | out => exact h
 | bad j => exact h
 | ok n j => exact OkR.n h
theorem res_finR {P : Nat → Prop} {g gb : Nat} {tv : Value} {L : List Tk} {j d : Nat} {w W : World} {k t k' t' : Int} {a a' : Option Addr} {m c m' c' : Nat} {f : F} (hw : w.heap.size ≤ gb) (hN : NBlk W gb k' t' a' m' c') (hR : RowP P W (gb + 1) (.slice a m c) f) (hPg : ∀ x, P x → gb < x) (hP : PaW g tv L j d W) (hM : MoP g w W) :
  NBlk (((W.setCell ⟨gb, 0, none⟩ (.int .i64 k)).setCell ⟨gb, 1, none⟩ (.int .i64 t)).setCell ⟨gb, 2, none⟩ (.slice a m c)) gb k t a m c ∧
  RowP (fun x => gb ≤ x) (((W.setCell ⟨gb, 0, none⟩ (.int .i64 k)).setCell ⟨gb, 1, none⟩ (.int .i64 t)).setCell ⟨gb, 2, none⟩ (.slice a m c)) gb (.slice a m c) f ∧
  PaW g tv L j d (((W.setCell ⟨gb, 0, none⟩ (.int .i64 k)).setCell ⟨gb, 1, none⟩ (.int .i64 t)).setCell ⟨gb, 2, none⟩ (.slice a m c)) ∧
  MoP g w (((W.setCell ⟨gb, 0, none⟩ (.int .i64 k)).setCell ⟨gb, 1, none⟩ (.int .i64 t)).setCell ⟨gb, 2, none⟩ (.slice a m c)) := by
 obtain ⟨q1, q2, q3, q4⟩ := box_set hP hM hN hw k t a m c
 have hlt := hR.lt
 exact ⟨q3, ((hR.keep2 (by simp) (fun x hx => q4 x (by have := hlt x hx; omega)) (fun x hx _ => q4 x (by have := hPg x hx; omega))).mono (fun x hx _ => by have := hPg x hx; omega)).base (fun x hx => by have := hlt x hx; omega), q1, q2⟩
set_option maxHeartbeats 4000000 in
set_option maxRecDepth 100000 in
theorem paGuarded_step {g : Nat} {tv : Value} {L : List Tk} {i d : Nat} {w : World} (h : PaW g tv L i d w) (kind : Int) (x : List UInt8) {f : Nat} (H : ExA g tv L f) (HB : ∀ (w : World) (i : Nat), PaW g tv L i d w → blkA L f i d ≠ .out → Calls Tryz.prog 113 #[.pointer (some ⟨g, 0, none⟩)] w fun e w' => ResN w.heap.size g tv L d w (blkA L f i d) e w') (hd : d ≤ 40) (hne : guaA L (f + 1) kind x i d ≠ .out) :
  Calls Tryz.prog 156 #[.pointer (some ⟨g, 0, none⟩), .int .i64 kind, (keyT x).val] w fun e w' => ResR w.heap.size g tv L d w (guaA L (f + 1) kind x i d) e w' := by
 unfold guaA at hne ⊢
 cases ho : keyA L i x with
 | false =>
  simp only [ho, wantA, Bool.false_eq_true, if_false] at hne ⊢
  clear H HB
  have hP0 := (h.alloc ((keyT x).obj (0, 0))).1
  have hM0 := (h.alloc ((keyT x).obj (0, 0))).2
  have hX0 := (Blk.alloc w (keyT x)).box
  unfold Tk.obj keyT at hP0 hM0 hX0
  unfold Tk.val keyT
  dsimp only at hP0 hM0 hX0 ⊢
  obtain ⟨bc, hbc⟩ : ∃ x, w.heap.size = x := ⟨_, rfl⟩
  rw [hbc] at hX0
  obtain ⟨W0, hq_W0⟩ : ∃ y, w.alloc (.cells #[.int .i64 5, .string ⟨x.toArray⟩, .int .i64 0, .int .i64 0, .bool false] 50 (0, 0)) = y := ⟨_, rfl⟩
  have hz0 : (w.alloc (.cells #[.int .i64 5, .string ⟨x.toArray⟩, .int .i64 0, .int .i64 0, .bool false] 50 (0, 0))).heap.size = bc + 1 := by simp [hbc]
  rw [hq_W0] at hP0 hM0 hX0 hz0
  have hgl : g < bc := by have := h.lt; omega
  have hP := zH (hP0.alloc (.cells #[.int .i64 0, .int .i64 0, .slice none 0 0] 24 (0, 0))).1
  have hM := zH (hM0.trans (hP0.alloc (.cells #[.int .i64 0, .int .i64 0, .slice none 0 0] 24 (0, 0))).2)
  have hN := zH (nblk_new W0 0 0 none 0 0)
  have hX := hX0.below (below_alloc W0 (.cells #[.int .i64 0, .int .i64 0, .slice none 0 0] 24 (0, 0))) (by omega)
  obtain ⟨gb, hgb⟩ : ∃ gb, W0.heap.size = gb := ⟨_, rfl⟩
  have hz : (W0.alloc (.cells #[.int .i64 0, .int .i64 0, .slice none 0 0] 24 (0, 0))).heap.size = gb + 1 := by simp [hgb]
  have hzb : gb = bc + 1 := by omega
  rw [hgb] at hN
  obtain ⟨W1, hq_W1⟩ : ∃ W1, W0.alloc (.cells #[.int .i64 0, .int .i64 0, .slice none 0 0] 24 (0, 0)) = W1 := ⟨_, rfl⟩
  rw [hq_W1] at hP hM hN hX hz
  replace hz := And.intro (Nat.le_of_eq hz) (Nat.le_of_eq hz.symm)
  replace hzb := And.intro (Nat.le_of_eq hzb) (Nat.le_of_eq hzb.symm)
  replace hz0 := And.intro (Nat.le_of_eq hz0) (Nat.le_of_eq hz0.symm)
  obtain ⟨x0, x1, x2, x3, x4⟩ := hX
  dsimp only at x0 x1 x2 x3 x4
  replace h := zH h
  clear hP0 hM0 hX0
  go_enter Tryz.func156, Tryz.ntmps156
  go_wp2_with fail
  clear hq_W1 hq_W0
  clear x0 x1 x2 x3 x4
  have hK := paWant_no (uH hP) (keyT x) (by rw [eqB_key]; exact ho)
  unfold Tk.val keyT at hK
  refine (hK).mono ?_
  rintro e W2 hBad
  obtain rfl := hBad.1
  have hG := zH (hBad.pre (uH hM))
  clear hBad
  go_wp2
  exact ⟨rfl, uH hG⟩
 | true =>
  simp only [ho, wantA, if_true] at hne ⊢
  have hne1 : absA L f 0 (i + 1) d ≠ .out := fun e => hne (by rw [e]; rfl)
  have hH := zH (fun w h => paExpr_any (w := w) (i := i + 1) (d := d) h H hd hne1)
  clear H
  cases hr : absA L f 0 (i + 1) d with
  | out => exact absurd hr hne1
  | bad j =>
   rw [hr] at hH
   simp only [PR.bind]
   clear HB
   have hP0 := (h.alloc ((keyT x).obj (0, 0))).1
   have hM0 := (h.alloc ((keyT x).obj (0, 0))).2
   have hX0 := (Blk.alloc w (keyT x)).box
   unfold Tk.obj keyT at hP0 hM0 hX0
   unfold Tk.val keyT
   dsimp only at hP0 hM0 hX0 ⊢
   obtain ⟨bc, hbc⟩ : ∃ x, w.heap.size = x := ⟨_, rfl⟩
   rw [hbc] at hX0
   obtain ⟨W0, hq_W0⟩ : ∃ y, w.alloc (.cells #[.int .i64 5, .string ⟨x.toArray⟩, .int .i64 0, .int .i64 0, .bool false] 50 (0, 0)) = y := ⟨_, rfl⟩
   have hz0 : (w.alloc (.cells #[.int .i64 5, .string ⟨x.toArray⟩, .int .i64 0, .int .i64 0, .bool false] 50 (0, 0))).heap.size = bc + 1 := by simp [hbc]
   rw [hq_W0] at hP0 hM0 hX0 hz0
   have hgl : g < bc := by have := h.lt; omega
   have hP := zH (hP0.alloc (.cells #[.int .i64 0, .int .i64 0, .slice none 0 0] 24 (0, 0))).1
   have hM := zH (hM0.trans (hP0.alloc (.cells #[.int .i64 0, .int .i64 0, .slice none 0 0] 24 (0, 0))).2)
   have hN := zH (nblk_new W0 0 0 none 0 0)
   have hX := hX0.below (below_alloc W0 (.cells #[.int .i64 0, .int .i64 0, .slice none 0 0] 24 (0, 0))) (by omega)
   obtain ⟨gb, hgb⟩ : ∃ gb, W0.heap.size = gb := ⟨_, rfl⟩
   have hz : (W0.alloc (.cells #[.int .i64 0, .int .i64 0, .slice none 0 0] 24 (0, 0))).heap.size = gb + 1 := by simp [hgb]
   have hzb : gb = bc + 1 := by omega
   rw [hgb] at hN
   obtain ⟨W1, hq_W1⟩ : ∃ W1, W0.alloc (.cells #[.int .i64 0, .int .i64 0, .slice none 0 0] 24 (0, 0)) = W1 := ⟨_, rfl⟩
   rw [hq_W1] at hP hM hN hX hz
   replace hz := And.intro (Nat.le_of_eq hz) (Nat.le_of_eq hz.symm)
   replace hzb := And.intro (Nat.le_of_eq hzb) (Nat.le_of_eq hzb.symm)
   replace hz0 := And.intro (Nat.le_of_eq hz0) (Nat.le_of_eq hz0.symm)
   obtain ⟨x0, x1, x2, x3, x4⟩ := hX
   dsimp only at x0 x1 x2 x3 x4
   replace h := zH h
   clear hP0 hM0 hX0
   go_enter Tryz.func156, Tryz.ntmps156
   go_wp2_with fail
   clear hq_W1 hq_W0
   clear x0 x1 x2 x3 x4
   have hK := paWant_yes (uH hP) (keyT x) (by rw [eqB_key]; exact ho) (keyA_lt ho)
   unfold Tk.val keyT at hK
   refine (hK).mono ?_
   rintro e W2 ⟨rfl, h2, hm⟩
   replace hN := zH ((uH hN).mop (uH hP) hm)
   have hzz := hm.size
   replace hM := zH ((uH hM).trans hm)
   replace hP := zH h2
   clear hm h2
   obtain ⟨b1, hq_b1⟩ : ∃ x, W2.heap.size = x := ⟨_, rfl⟩
   have hB := zH (nblk_new W2 kind i none 0 0)
   have hm := mop_below (g := g) (below_alloc W2 (.cells #[.int .i64 kind, .int .i64 i, .slice none 0 0] 24 (0, 0)))
   have h2 := (uH hP).below (below_alloc W2 (.cells #[.int .i64 kind, .int .i64 i, .slice none 0 0] 24 (0, 0)))
   have hzs : (W2.alloc (.cells #[.int .i64 kind, .int .i64 i, .slice none 0 0] 24 (0, 0))).heap.size = b1 + 1 := by simp [hq_b1]
   obtain ⟨W3, hq_W3⟩ : ∃ x, W2.alloc (.cells #[.int .i64 kind, .int .i64 i, .slice none 0 0] 24 (0, 0)) = x := ⟨_, rfl⟩
   rw [hq_W3] at hB hm h2 hzs
   replace hzs := And.intro (Nat.le_of_eq hzs) (Nat.le_of_eq hzs.symm)
   rw [hq_b1] at hB
   replace hq_W3 := zH hq_W3
   replace hN := zH ((uH hN).mop (uH hP) hm)
   have hzz := hm.size
   replace hM := zH ((uH hM).trans hm)
   replace hP := zH h2
   clear hm h2
   have hR := zH (rowP_nil (fun x => gb < x ∧ x ≠ b1) W3 (gb + 1))
   have hRo : Hid (∀ y, (Value.slice none 0 0).ownBlock = some y → y ≠ b1) := zH (fun y hy => by cases hy)
   go_upto_region 2 with fail
   rw [uH hq_W3]
   clear hq_W3
   have hb : Below W3.heap.size W3 (World.drew W3) := (Below.refl _ _).drew
   have h2 := (uH hP).below hb
   have hm := mop_below (g := g) hb
   clear hb
   obtain ⟨WD, hq_WD⟩ : ∃ x, World.drew W3 = x := ⟨_, rfl⟩
   rw [hq_WD] at h2 hm
   replace hN := zH ((uH hN).mop (uH hP) hm)
   replace hB := zH ((uH hB).mop (uH hP) hm)
   replace hR := zH ((uH hR).mop (uH hP) hm)
   have hzz := hm.size
   replace hM := zH ((uH hM).trans hm)
   replace hP := zH h2
   clear hm h2
   have hS : NBlk WD b1 kind i none 0 0 := uH hB
   refine wp_region_D (fun w' => NBlk w' b1 kind i none 0 0) (fun j => [7].contains j) (by kernel_rfl) ?_
   rw [hq_WD]
   clear hq_WD
   have hbl := (uH hB).lt
   have hRl := (uH hR).lt
   refine wpAnyD_takeC (i := 0) (v := .pointer (some ⟨b1, 2, none⟩)) [7] (fun _ => rfl) rfl (by kernel_rfl) 3 (by kernel_rfl) rfl (by kernel_rfl) (by kernel_rfl) (by kernel_rfl) (fun _ _ _ h => h) (Or.inl ⟨by kernel_rfl, ?_⟩) hS ?_
   ·
    intro w hSw
    go_simp
   try simp only [List.getElem_toArray, List.getElem_cons_succ, List.getElem_cons_zero, Act.put, List.setIfInBounds_toArray, List.set_cons_zero, List.set_cons_succ]
   refine wpAnyD_takeC (i := 1) (v := .slice none 0 0) [7] (fun _ => rfl) rfl (by kernel_rfl) 3 (by kernel_rfl) rfl (by kernel_rfl) (by kernel_rfl) (by kernel_rfl) (fun _ _ _ h => h) (Or.inl ⟨by kernel_rfl, ?_⟩) hS ?_
   ·
    intro w hSw
    obtain ⟨e0, e1, e2⟩ := hSw.box
    go_simp
   try simp only [List.getElem_toArray, List.getElem_cons_succ, List.getElem_cons_zero, Act.put, List.setIfInBounds_toArray, List.set_cons_zero, List.set_cons_succ]
   refine wpAnyD_takeC (i := 2) (v := .pointer (some ⟨g, 0, none⟩)) [7] (fun _ => rfl) rfl (by kernel_rfl) 3 (by kernel_rfl) rfl (by kernel_rfl) (by kernel_rfl) (by kernel_rfl) (fun _ _ _ h => h) (Or.inl ⟨by kernel_rfl, ?_⟩) hS ?_
   ·
    intro w hSw
    go_simp
   try simp only [List.getElem_toArray, List.getElem_cons_succ, List.getElem_cons_zero, Act.put, List.setIfInBounds_toArray, List.set_cons_zero, List.set_cons_succ]
   refine wpAnyD_one (i := 3) rfl (by kernel_rfl) (fun K' hK_ => ?_)
   rw [if_pos (by kernel_rfl)]
   refine oper_callR (run_call1 cf_paExpr) ?_
   refine (uH hH _ (uH hP)).mono ?_
   rintro e W4 hBad
   obtain rfl := hBad.1
   have hG := zH (hBad.pre (uH hM))
   clear hBad
   go_wp2
   exact ⟨rfl, uH hG⟩
  | ok n j =>
   obtain ⟨nk, nt, nc⟩ := n
   rw [hr] at hH hne
   simp only [PR.bind, snoc, one] at hne ⊢
   have hne2 : blkA L f j d ≠ .out := fun e => hne (by rw [e])
   have hHb := zH (fun w h => HB w j h hne2)
   clear HB hne
   cases hrb : blkA L f j d with
   | out => exact absurd hrb hne2
   | bad j2 =>
    rw [hrb] at hHb
    dsimp only
    have hP0 := (h.alloc ((keyT x).obj (0, 0))).1
    have hM0 := (h.alloc ((keyT x).obj (0, 0))).2
    have hX0 := (Blk.alloc w (keyT x)).box
    unfold Tk.obj keyT at hP0 hM0 hX0
    unfold Tk.val keyT
    dsimp only at hP0 hM0 hX0 ⊢
    obtain ⟨bc, hbc⟩ : ∃ x, w.heap.size = x := ⟨_, rfl⟩
    rw [hbc] at hX0
    obtain ⟨W0, hq_W0⟩ : ∃ y, w.alloc (.cells #[.int .i64 5, .string ⟨x.toArray⟩, .int .i64 0, .int .i64 0, .bool false] 50 (0, 0)) = y := ⟨_, rfl⟩
    have hz0 : (w.alloc (.cells #[.int .i64 5, .string ⟨x.toArray⟩, .int .i64 0, .int .i64 0, .bool false] 50 (0, 0))).heap.size = bc + 1 := by simp [hbc]
    rw [hq_W0] at hP0 hM0 hX0 hz0
    have hgl : g < bc := by have := h.lt; omega
    have hP := zH (hP0.alloc (.cells #[.int .i64 0, .int .i64 0, .slice none 0 0] 24 (0, 0))).1
    have hM := zH (hM0.trans (hP0.alloc (.cells #[.int .i64 0, .int .i64 0, .slice none 0 0] 24 (0, 0))).2)
    have hN := zH (nblk_new W0 0 0 none 0 0)
    have hX := hX0.below (below_alloc W0 (.cells #[.int .i64 0, .int .i64 0, .slice none 0 0] 24 (0, 0))) (by omega)
    obtain ⟨gb, hgb⟩ : ∃ gb, W0.heap.size = gb := ⟨_, rfl⟩
    have hz : (W0.alloc (.cells #[.int .i64 0, .int .i64 0, .slice none 0 0] 24 (0, 0))).heap.size = gb + 1 := by simp [hgb]
    have hzb : gb = bc + 1 := by omega
    rw [hgb] at hN
    obtain ⟨W1, hq_W1⟩ : ∃ W1, W0.alloc (.cells #[.int .i64 0, .int .i64 0, .slice none 0 0] 24 (0, 0)) = W1 := ⟨_, rfl⟩
    rw [hq_W1] at hP hM hN hX hz
    replace hz := And.intro (Nat.le_of_eq hz) (Nat.le_of_eq hz.symm)
    replace hzb := And.intro (Nat.le_of_eq hzb) (Nat.le_of_eq hzb.symm)
    replace hz0 := And.intro (Nat.le_of_eq hz0) (Nat.le_of_eq hz0.symm)
    obtain ⟨x0, x1, x2, x3, x4⟩ := hX
    dsimp only at x0 x1 x2 x3 x4
    replace h := zH h
    clear hP0 hM0 hX0
    go_enter Tryz.func156, Tryz.ntmps156
    go_wp2_with fail
    clear hq_W1 hq_W0
    clear x0 x1 x2 x3 x4
    have hK := paWant_yes (uH hP) (keyT x) (by rw [eqB_key]; exact ho) (keyA_lt ho)
    unfold Tk.val keyT at hK
    refine (hK).mono ?_
    rintro e W2 ⟨rfl, h2, hm⟩
    replace hN := zH ((uH hN).mop (uH hP) hm)
    have hzz := hm.size
    replace hM := zH ((uH hM).trans hm)
    replace hP := zH h2
    clear hm h2
    obtain ⟨b1, hq_b1⟩ : ∃ x, W2.heap.size = x := ⟨_, rfl⟩
    have hB := zH (nblk_new W2 kind i none 0 0)
    have hm := mop_below (g := g) (below_alloc W2 (.cells #[.int .i64 kind, .int .i64 i, .slice none 0 0] 24 (0, 0)))
    have h2 := (uH hP).below (below_alloc W2 (.cells #[.int .i64 kind, .int .i64 i, .slice none 0 0] 24 (0, 0)))
    have hzs : (W2.alloc (.cells #[.int .i64 kind, .int .i64 i, .slice none 0 0] 24 (0, 0))).heap.size = b1 + 1 := by simp [hq_b1]
    obtain ⟨W3, hq_W3⟩ : ∃ x, W2.alloc (.cells #[.int .i64 kind, .int .i64 i, .slice none 0 0] 24 (0, 0)) = x := ⟨_, rfl⟩
    rw [hq_W3] at hB hm h2 hzs
    replace hzs := And.intro (Nat.le_of_eq hzs) (Nat.le_of_eq hzs.symm)
    rw [hq_b1] at hB
    replace hq_W3 := zH hq_W3
    replace hN := zH ((uH hN).mop (uH hP) hm)
    have hzz := hm.size
    replace hM := zH ((uH hM).trans hm)
    replace hP := zH h2
    clear hm h2
    have hR := zH (rowP_nil (fun x => gb < x ∧ x ≠ b1) W3 (gb + 1))
    have hRo : Hid (∀ y, (Value.slice none 0 0).ownBlock = some y → y ≠ b1) := zH (fun y hy => by cases hy)
    go_upto_region 2 with fail
    rw [uH hq_W3]
    clear hq_W3
    have hb : Below W3.heap.size W3 (World.drew W3) := (Below.refl _ _).drew
    have h2 := (uH hP).below hb
    have hm := mop_below (g := g) hb
    clear hb
    obtain ⟨WD, hq_WD⟩ : ∃ x, World.drew W3 = x := ⟨_, rfl⟩
    rw [hq_WD] at h2 hm
    replace hN := zH ((uH hN).mop (uH hP) hm)
    replace hB := zH ((uH hB).mop (uH hP) hm)
    replace hR := zH ((uH hR).mop (uH hP) hm)
    have hzz := hm.size
    replace hM := zH ((uH hM).trans hm)
    replace hP := zH h2
    clear hm h2
    have hS : NBlk WD b1 kind i none 0 0 := uH hB
    refine wp_region_D (fun w' => NBlk w' b1 kind i none 0 0) (fun j => [7].contains j) (by kernel_rfl) ?_
    rw [hq_WD]
    clear hq_WD
    have hbl := (uH hB).lt
    have hRl := (uH hR).lt
    refine wpAnyD_takeC (i := 0) (v := .pointer (some ⟨b1, 2, none⟩)) [7] (fun _ => rfl) rfl (by kernel_rfl) 3 (by kernel_rfl) rfl (by kernel_rfl) (by kernel_rfl) (by kernel_rfl) (fun _ _ _ h => h) (Or.inl ⟨by kernel_rfl, ?_⟩) hS ?_
    ·
     intro w hSw
     go_simp
    try simp only [List.getElem_toArray, List.getElem_cons_succ, List.getElem_cons_zero, Act.put, List.setIfInBounds_toArray, List.set_cons_zero, List.set_cons_succ]
    refine wpAnyD_takeC (i := 1) (v := .slice none 0 0) [7] (fun _ => rfl) rfl (by kernel_rfl) 3 (by kernel_rfl) rfl (by kernel_rfl) (by kernel_rfl) (by kernel_rfl) (fun _ _ _ h => h) (Or.inl ⟨by kernel_rfl, ?_⟩) hS ?_
    ·
     intro w hSw
     obtain ⟨e0, e1, e2⟩ := hSw.box
     go_simp
    try simp only [List.getElem_toArray, List.getElem_cons_succ, List.getElem_cons_zero, Act.put, List.setIfInBounds_toArray, List.set_cons_zero, List.set_cons_succ]
    refine wpAnyD_takeC (i := 2) (v := .pointer (some ⟨g, 0, none⟩)) [7] (fun _ => rfl) rfl (by kernel_rfl) 3 (by kernel_rfl) rfl (by kernel_rfl) (by kernel_rfl) (by kernel_rfl) (fun _ _ _ h => h) (Or.inl ⟨by kernel_rfl, ?_⟩) hS ?_
    ·
     intro w hSw
     go_simp
    try simp only [List.getElem_toArray, List.getElem_cons_succ, List.getElem_cons_zero, Act.put, List.setIfInBounds_toArray, List.set_cons_zero, List.set_cons_succ]
    refine wpAnyD_one (i := 3) rfl (by kernel_rfl) (fun K' hK_ => ?_)
    rw [if_pos (by kernel_rfl)]
    refine oper_callR (run_call1 cf_paExpr) ?_
    refine (uH hH _ (uH hP)).mono ?_
    rintro e W4 ⟨a2, m2, c2, rfl, hs, h2, hm⟩
    dsimp only at hs
    have hzs := hm.size
    have hs2 := zH (hs.mono (P' := fun x => (gb < x ∧ x ≠ b1) ∧ (Value.slice none 0 0).ownBlock ≠ some x) (fun x hx => by have e1 := hx.1; exact ⟨⟨by omega, by omega⟩, fun e => by have := hRl x e; omega⟩))
    clear hs
    replace hN := zH ((uH hN).mop (uH hP) hm)
    replace hB := zH ((uH hB).mop (uH hP) hm)
    replace hR := zH ((uH hR).mop (uH hP) hm)
    have hzz := hm.size
    replace hM := zH ((uH hM).trans hm)
    replace hP := zH h2
    clear hm h2
    have hSW4 : NBlk W4 b1 kind i none 0 0 := uH hB
    refine hK_ _ _ (fun _ => hSW4) ?_
    clear hK_ K' hS
    have hS := hSW4
    try simp only [List.getElem_toArray, List.getElem_cons_succ, List.getElem_cons_zero, Act.put, List.setIfInBounds_toArray, List.set_cons_zero, List.set_cons_succ]
    refine wpAnyD_one (i := 4) rfl (by kernel_rfl) (fun K' hK_ => ?_)
    rw [if_pos (by kernel_rfl)]
    refine oper_of_run (run_build_one W4 _ _ _ _ _ _ _ nk nt a2 m2 c2 rfl) ?_
    have hbl2 := (uH hB).lt
    have hL := (lit1_sl (P := fun x => (gb < x ∧ x ≠ b1) ∧ (Value.slice none 0 0).ownBlock ≠ some x) W4 nk nt a2 m2 c2 nc (uH hs2) ⟨⟨by omega, by omega⟩, fun e => by have := hRl _ e; omega⟩).mono (P' := fun x => (gb < x ∧ x ≠ b1) ∧ (Value.slice none 0 0).ownBlock ≠ some x ∧ x < (W4.alloc (.cells #[.int .i64 nk, .int .i64 nt, .slice a2 m2 c2] 24 (0, 0))).heap.size) (fun x hx => ⟨hx.1.1, hx.1.2, hx.lt⟩)
    have hm := mop_below (g := g) (below_alloc W4 (.cells #[.int .i64 nk, .int .i64 nt, .slice a2 m2 c2] 24 (0, 0)))
    have h2 := (uH hP).below (below_alloc W4 (.cells #[.int .i64 nk, .int .i64 nt, .slice a2 m2 c2] 24 (0, 0)))
    obtain ⟨gl, hgl2⟩ : ∃ x, W4.heap.size = x := ⟨_, rfl⟩
    have hzz : (W4.alloc (.cells #[.int .i64 nk, .int .i64 nt, .slice a2 m2 c2] 24 (0, 0))).heap.size = gl + 1 := by simp [hgl2]
    obtain ⟨W5, hq_W5⟩ : ∃ x, W4.alloc (.cells #[.int .i64 nk, .int .i64 nt, .slice a2 m2 c2] 24 (0, 0)) = x := ⟨_, rfl⟩
    rw [hq_W5] at hL hm h2 hzz
    rw [hgl2] at hL
    replace hzz := And.intro (Nat.le_of_eq hzz) (Nat.le_of_eq hzz.symm)
    rw [hq_W5, hgl2]
    clear hq_W5 hs2
    replace hL := zH hL
    replace hN := zH ((uH hN).mop (uH hP) hm)
    replace hB := zH ((uH hB).mop (uH hP) hm)
    replace hR := zH ((uH hR).mop (uH hP) hm)
    have hzz := hm.size
    replace hM := zH ((uH hM).trans hm)
    replace hP := zH h2
    clear hm h2
    have hSW5 : NBlk W5 b1 kind i none 0 0 := uH hB
    refine hK_ _ _ (fun _ => hSW5) ?_
    clear hK_ K' hS
    have hS := hSW5
    try simp only [List.getElem_toArray, List.getElem_cons_succ, List.getElem_cons_zero, Act.put, List.setIfInBounds_toArray, List.set_cons_zero, List.set_cons_succ]
    refine wpAnyD_one (i := 5) rfl (by kernel_rfl) (fun K' hK_ => ?_)
    rw [if_pos (by kernel_rfl)]
    refine oper_append_rowP (.tmp 14) (.tmp 17) rfl rfl (uH hR) rfl (uH hL) (by simp only [F.len, F.app]; omega) (by omega) ?_
    intro v4 W6 hR4 hb4 hg4 hl4
    have hzg := hg4.size
    have hbl3 := (uH hB).lt
    have hbm := hb4.mono (show w.heap.size ≤ gb + 1 by omega)
    have h2 := (uH hP).belowB (uH h) hbm
    have hM4 := mop_belowB (uH h) hbm (by omega) (uH hM)
    replace hN := zH ((uH hN).same (hb4.block _ (by omega)))
    replace hB := zH ((uH hB).same (hg4.block _ hbl3 (fun e => uH hRo _ e.symm rfl)))
    replace hP := zH h2
    replace hM := zH hM4
    have hRo4 : Hid (∀ y, v4.ownBlock = some y → y ≠ b1) := zH (fun y hy => by
     rcases hl4 with e | e
     ·
      exact uH hRo y (e ▸ hy)
     ·
      rw [e] at hy
      injection hy with hy
      omega)
    replace hRo := hRo4
    obtain ⟨a5, c5, rfl, _⟩ := hR4.slO (fun y hy => ⟨by have := hR4.lt y hy; omega, uH hRo y hy⟩)
    replace hR := zH hR4
    clear hR4 hb4 hg4 hl4 hbm h2 hM4 hL hRo4
    have hSW6 : NBlk W6 b1 kind i none 0 0 := uH hB
    refine hK_ _ _ (fun _ => hSW6) ?_
    clear hK_ K' hS
    have hS := hSW6
    try simp only [List.getElem_toArray, List.getElem_cons_succ, List.getElem_cons_zero, Act.put, List.setIfInBounds_toArray, List.set_cons_zero, List.set_cons_succ]
    refine wpAnyD_one (i := 6) rfl (by kernel_rfl) (fun K' hK_ => ?_)
    rw [if_pos (by kernel_rfl)]
    refine oper_of_run (v := .pointer (some ⟨b1, 2, none⟩)) (w' := W6) (by clear hK_; go_simp) ?_
    refine hK_ _ _ (fun _ => hS) ?_
    clear hK_ K'
    try simp only [List.getElem_toArray, List.getElem_cons_succ, List.getElem_cons_zero, Act.put, List.setIfInBounds_toArray, List.set_cons_zero, List.set_cons_succ]
    refine wpAnyD_one (i := 7) rfl (by kernel_rfl) (fun K' hK_ => ?_)
    rw [if_pos (by kernel_rfl)]
    refine oper_skip (run_store_kids W6 _ _ _ _ _ _ _ _ b1 kind i none a5 0 0 (F.app F.nil (.cons nk nt nc .nil)).len c5 (uH hB) rfl rfl) ?_
    obtain ⟨h2, hM2, hB2, hh⟩ := kid_set (uH hP) (uH hM) (uH hB) (by omega) a5 (F.app F.nil (.cons nk nt nc .nil)).len c5
    have hzz : (W6.setCell ⟨b1, 2, none⟩ (.slice a5 (F.app F.nil (.cons nk nt nc .nil)).len c5)).heap.size = W6.heap.size := by simp
    obtain ⟨W7, hq_W7⟩ : ∃ x, W6.setCell ⟨b1, 2, none⟩ (.slice a5 (F.app F.nil (.cons nk nt nc .nil)).len c5) = x := ⟨_, rfl⟩
    rw [hq_W7] at h2 hM2 hB2 hh hzz
    replace hzz := And.intro (Nat.le_of_eq hzz) (Nat.le_of_eq hzz.symm)
    replace hR := zH ((uH hR).keep2 (w' := W7) (by omega) (fun y hy => hh y (uH hRo y hy)) (fun y hy _ => hh y hy.2))
    replace hN := zH ((uH hN).same (hh _ (by omega)))
    replace hB := zH hB2
    replace hM := zH hM2
    replace hP := zH h2
    clear hB2 hM2 h2 hh
    rw [hq_W7]
    clear hq_W7
    refine hK_ _ _ (fun h => by cases h) ?_
    clear hK_ K'
    try simp only [List.getElem_toArray, List.getElem_cons_succ, List.getElem_cons_zero, Act.put, List.setIfInBounds_toArray, List.set_cons_zero, List.set_cons_succ]
    clear hS
    refine wpAnyD_done (by kernel_rfl) ?_ _
    go_upto_region 3 with fail
    have hb : Below W7.heap.size W7 (World.drew W7) := (Below.refl _ _).drew
    have h2 := (uH hP).below hb
    have hm := mop_below (g := g) hb
    clear hb
    obtain ⟨WD, hq_WD⟩ : ∃ x, World.drew W7 = x := ⟨_, rfl⟩
    rw [hq_WD] at h2 hm
    replace hN := zH ((uH hN).mop (uH hP) hm)
    replace hB := zH ((uH hB).mop (uH hP) hm)
    replace hR := zH ((uH hR).mop (uH hP) hm)
    have hzz := hm.size
    replace hM := zH ((uH hM).trans hm)
    replace hP := zH h2
    clear hm h2
    have hS : NBlk WD b1 kind i a5 (F.app F.nil (.cons nk nt nc .nil)).len c5 := uH hB
    refine wp_region_D (fun w' => NBlk w' b1 kind i a5 (F.app F.nil (.cons nk nt nc .nil)).len c5) (fun j => [7].contains j) (by kernel_rfl) ?_
    rw [hq_WD]
    clear hq_WD
    have hbl := (uH hB).lt
    have hRl := (uH hR).lt
    refine wpAnyD_takeC (i := 0) (v := .pointer (some ⟨b1, 2, none⟩)) [7] (fun _ => rfl) rfl (by kernel_rfl) 3 (by kernel_rfl) rfl (by kernel_rfl) (by kernel_rfl) (by kernel_rfl) (fun _ _ _ h => h) (Or.inl ⟨by kernel_rfl, ?_⟩) hS ?_
    ·
     intro w hSw
     go_simp
    try simp only [List.getElem_toArray, List.getElem_cons_succ, List.getElem_cons_zero, Act.put, List.setIfInBounds_toArray, List.set_cons_zero, List.set_cons_succ]
    refine wpAnyD_takeC (i := 1) (v := .slice a5 (F.app F.nil (.cons nk nt nc .nil)).len c5) [7] (fun _ => rfl) rfl (by kernel_rfl) 3 (by kernel_rfl) rfl (by kernel_rfl) (by kernel_rfl) (by kernel_rfl) (fun _ _ _ h => h) (Or.inl ⟨by kernel_rfl, ?_⟩) hS ?_
    ·
     intro w hSw
     obtain ⟨e0, e1, e2⟩ := hSw.box
     go_simp
    try simp only [List.getElem_toArray, List.getElem_cons_succ, List.getElem_cons_zero, Act.put, List.setIfInBounds_toArray, List.set_cons_zero, List.set_cons_succ]
    refine wpAnyD_takeC (i := 2) (v := .pointer (some ⟨g, 0, none⟩)) [7] (fun _ => rfl) rfl (by kernel_rfl) 3 (by kernel_rfl) rfl (by kernel_rfl) (by kernel_rfl) (by kernel_rfl) (fun _ _ _ h => h) (Or.inl ⟨by kernel_rfl, ?_⟩) hS ?_
    ·
     intro w hSw
     go_simp
    try simp only [List.getElem_toArray, List.getElem_cons_succ, List.getElem_cons_zero, Act.put, List.setIfInBounds_toArray, List.set_cons_zero, List.set_cons_succ]
    refine wpAnyD_one (i := 3) rfl (by kernel_rfl) (fun K' hK_ => ?_)
    rw [if_pos (by kernel_rfl)]
    refine oper_callR (run_call1 cf_paBlock) ?_
    refine (uH hHb _ (uH hP)).mono ?_
    rintro e W8 hBad
    obtain rfl := hBad.1
    have hG := zH (hBad.pre (uH hM))
    clear hBad
    go_wp2
    exact ⟨rfl, uH hG⟩
   | ok n2 j2 =>
    obtain ⟨bk, bt, bb⟩ := n2
    rw [hrb] at hHb
    dsimp only
    have hP0 := (h.alloc ((keyT x).obj (0, 0))).1
    have hM0 := (h.alloc ((keyT x).obj (0, 0))).2
    have hX0 := (Blk.alloc w (keyT x)).box
    unfold Tk.obj keyT at hP0 hM0 hX0
    unfold Tk.val keyT
    dsimp only at hP0 hM0 hX0 ⊢
    obtain ⟨bc, hbc⟩ : ∃ x, w.heap.size = x := ⟨_, rfl⟩
    rw [hbc] at hX0
    obtain ⟨W0, hq_W0⟩ : ∃ y, w.alloc (.cells #[.int .i64 5, .string ⟨x.toArray⟩, .int .i64 0, .int .i64 0, .bool false] 50 (0, 0)) = y := ⟨_, rfl⟩
    have hz0 : (w.alloc (.cells #[.int .i64 5, .string ⟨x.toArray⟩, .int .i64 0, .int .i64 0, .bool false] 50 (0, 0))).heap.size = bc + 1 := by simp [hbc]
    rw [hq_W0] at hP0 hM0 hX0 hz0
    have hgl : g < bc := by have := h.lt; omega
    have hP := zH (hP0.alloc (.cells #[.int .i64 0, .int .i64 0, .slice none 0 0] 24 (0, 0))).1
    have hM := zH (hM0.trans (hP0.alloc (.cells #[.int .i64 0, .int .i64 0, .slice none 0 0] 24 (0, 0))).2)
    have hN := zH (nblk_new W0 0 0 none 0 0)
    have hX := hX0.below (below_alloc W0 (.cells #[.int .i64 0, .int .i64 0, .slice none 0 0] 24 (0, 0))) (by omega)
    obtain ⟨gb, hgb⟩ : ∃ gb, W0.heap.size = gb := ⟨_, rfl⟩
    have hz : (W0.alloc (.cells #[.int .i64 0, .int .i64 0, .slice none 0 0] 24 (0, 0))).heap.size = gb + 1 := by simp [hgb]
    have hzb : gb = bc + 1 := by omega
    rw [hgb] at hN
    obtain ⟨W1, hq_W1⟩ : ∃ W1, W0.alloc (.cells #[.int .i64 0, .int .i64 0, .slice none 0 0] 24 (0, 0)) = W1 := ⟨_, rfl⟩
    rw [hq_W1] at hP hM hN hX hz
    replace hz := And.intro (Nat.le_of_eq hz) (Nat.le_of_eq hz.symm)
    replace hzb := And.intro (Nat.le_of_eq hzb) (Nat.le_of_eq hzb.symm)
    replace hz0 := And.intro (Nat.le_of_eq hz0) (Nat.le_of_eq hz0.symm)
    obtain ⟨x0, x1, x2, x3, x4⟩ := hX
    dsimp only at x0 x1 x2 x3 x4
    replace h := zH h
    clear hP0 hM0 hX0
    go_enter Tryz.func156, Tryz.ntmps156
    go_wp2_with fail
    clear hq_W1 hq_W0
    clear x0 x1 x2 x3 x4
    have hK := paWant_yes (uH hP) (keyT x) (by rw [eqB_key]; exact ho) (keyA_lt ho)
    unfold Tk.val keyT at hK
    refine (hK).mono ?_
    rintro e W2 ⟨rfl, h2, hm⟩
    replace hN := zH ((uH hN).mop (uH hP) hm)
    have hzz := hm.size
    replace hM := zH ((uH hM).trans hm)
    replace hP := zH h2
    clear hm h2
    obtain ⟨b1, hq_b1⟩ : ∃ x, W2.heap.size = x := ⟨_, rfl⟩
    have hB := zH (nblk_new W2 kind i none 0 0)
    have hm := mop_below (g := g) (below_alloc W2 (.cells #[.int .i64 kind, .int .i64 i, .slice none 0 0] 24 (0, 0)))
    have h2 := (uH hP).below (below_alloc W2 (.cells #[.int .i64 kind, .int .i64 i, .slice none 0 0] 24 (0, 0)))
    have hzs : (W2.alloc (.cells #[.int .i64 kind, .int .i64 i, .slice none 0 0] 24 (0, 0))).heap.size = b1 + 1 := by simp [hq_b1]
    obtain ⟨W3, hq_W3⟩ : ∃ x, W2.alloc (.cells #[.int .i64 kind, .int .i64 i, .slice none 0 0] 24 (0, 0)) = x := ⟨_, rfl⟩
    rw [hq_W3] at hB hm h2 hzs
    replace hzs := And.intro (Nat.le_of_eq hzs) (Nat.le_of_eq hzs.symm)
    rw [hq_b1] at hB
    replace hq_W3 := zH hq_W3
    replace hN := zH ((uH hN).mop (uH hP) hm)
    have hzz := hm.size
    replace hM := zH ((uH hM).trans hm)
    replace hP := zH h2
    clear hm h2
    have hR := zH (rowP_nil (fun x => gb < x ∧ x ≠ b1) W3 (gb + 1))
    have hRo : Hid (∀ y, (Value.slice none 0 0).ownBlock = some y → y ≠ b1) := zH (fun y hy => by cases hy)
    go_upto_region 2 with fail
    rw [uH hq_W3]
    clear hq_W3
    have hb : Below W3.heap.size W3 (World.drew W3) := (Below.refl _ _).drew
    have h2 := (uH hP).below hb
    have hm := mop_below (g := g) hb
    clear hb
    obtain ⟨WD, hq_WD⟩ : ∃ x, World.drew W3 = x := ⟨_, rfl⟩
    rw [hq_WD] at h2 hm
    replace hN := zH ((uH hN).mop (uH hP) hm)
    replace hB := zH ((uH hB).mop (uH hP) hm)
    replace hR := zH ((uH hR).mop (uH hP) hm)
    have hzz := hm.size
    replace hM := zH ((uH hM).trans hm)
    replace hP := zH h2
    clear hm h2
    have hS : NBlk WD b1 kind i none 0 0 := uH hB
    refine wp_region_D (fun w' => NBlk w' b1 kind i none 0 0) (fun j => [7].contains j) (by kernel_rfl) ?_
    rw [hq_WD]
    clear hq_WD
    have hbl := (uH hB).lt
    have hRl := (uH hR).lt
    refine wpAnyD_takeC (i := 0) (v := .pointer (some ⟨b1, 2, none⟩)) [7] (fun _ => rfl) rfl (by kernel_rfl) 3 (by kernel_rfl) rfl (by kernel_rfl) (by kernel_rfl) (by kernel_rfl) (fun _ _ _ h => h) (Or.inl ⟨by kernel_rfl, ?_⟩) hS ?_
    ·
     intro w hSw
     go_simp
    try simp only [List.getElem_toArray, List.getElem_cons_succ, List.getElem_cons_zero, Act.put, List.setIfInBounds_toArray, List.set_cons_zero, List.set_cons_succ]
    refine wpAnyD_takeC (i := 1) (v := .slice none 0 0) [7] (fun _ => rfl) rfl (by kernel_rfl) 3 (by kernel_rfl) rfl (by kernel_rfl) (by kernel_rfl) (by kernel_rfl) (fun _ _ _ h => h) (Or.inl ⟨by kernel_rfl, ?_⟩) hS ?_
    ·
     intro w hSw
     obtain ⟨e0, e1, e2⟩ := hSw.box
     go_simp
    try simp only [List.getElem_toArray, List.getElem_cons_succ, List.getElem_cons_zero, Act.put, List.setIfInBounds_toArray, List.set_cons_zero, List.set_cons_succ]
    refine wpAnyD_takeC (i := 2) (v := .pointer (some ⟨g, 0, none⟩)) [7] (fun _ => rfl) rfl (by kernel_rfl) 3 (by kernel_rfl) rfl (by kernel_rfl) (by kernel_rfl) (by kernel_rfl) (fun _ _ _ h => h) (Or.inl ⟨by kernel_rfl, ?_⟩) hS ?_
    ·
     intro w hSw
     go_simp
    try simp only [List.getElem_toArray, List.getElem_cons_succ, List.getElem_cons_zero, Act.put, List.setIfInBounds_toArray, List.set_cons_zero, List.set_cons_succ]
    refine wpAnyD_one (i := 3) rfl (by kernel_rfl) (fun K' hK_ => ?_)
    rw [if_pos (by kernel_rfl)]
    refine oper_callR (run_call1 cf_paExpr) ?_
    refine (uH hH _ (uH hP)).mono ?_
    rintro e W4 ⟨a2, m2, c2, rfl, hs, h2, hm⟩
    dsimp only at hs
    have hzs := hm.size
    have hs2 := zH (hs.mono (P' := fun x => (gb < x ∧ x ≠ b1) ∧ (Value.slice none 0 0).ownBlock ≠ some x) (fun x hx => by have e1 := hx.1; exact ⟨⟨by omega, by omega⟩, fun e => by have := hRl x e; omega⟩))
    clear hs
    replace hN := zH ((uH hN).mop (uH hP) hm)
    replace hB := zH ((uH hB).mop (uH hP) hm)
    replace hR := zH ((uH hR).mop (uH hP) hm)
    have hzz := hm.size
    replace hM := zH ((uH hM).trans hm)
    replace hP := zH h2
    clear hm h2
    have hSW4 : NBlk W4 b1 kind i none 0 0 := uH hB
    refine hK_ _ _ (fun _ => hSW4) ?_
    clear hK_ K' hS
    have hS := hSW4
    try simp only [List.getElem_toArray, List.getElem_cons_succ, List.getElem_cons_zero, Act.put, List.setIfInBounds_toArray, List.set_cons_zero, List.set_cons_succ]
    refine wpAnyD_one (i := 4) rfl (by kernel_rfl) (fun K' hK_ => ?_)
    rw [if_pos (by kernel_rfl)]
    refine oper_of_run (run_build_one W4 _ _ _ _ _ _ _ nk nt a2 m2 c2 rfl) ?_
    have hbl2 := (uH hB).lt
    have hL := (lit1_sl (P := fun x => (gb < x ∧ x ≠ b1) ∧ (Value.slice none 0 0).ownBlock ≠ some x) W4 nk nt a2 m2 c2 nc (uH hs2) ⟨⟨by omega, by omega⟩, fun e => by have := hRl _ e; omega⟩).mono (P' := fun x => (gb < x ∧ x ≠ b1) ∧ (Value.slice none 0 0).ownBlock ≠ some x ∧ x < (W4.alloc (.cells #[.int .i64 nk, .int .i64 nt, .slice a2 m2 c2] 24 (0, 0))).heap.size) (fun x hx => ⟨hx.1.1, hx.1.2, hx.lt⟩)
    have hm := mop_below (g := g) (below_alloc W4 (.cells #[.int .i64 nk, .int .i64 nt, .slice a2 m2 c2] 24 (0, 0)))
    have h2 := (uH hP).below (below_alloc W4 (.cells #[.int .i64 nk, .int .i64 nt, .slice a2 m2 c2] 24 (0, 0)))
    obtain ⟨gl, hgl2⟩ : ∃ x, W4.heap.size = x := ⟨_, rfl⟩
    have hzz : (W4.alloc (.cells #[.int .i64 nk, .int .i64 nt, .slice a2 m2 c2] 24 (0, 0))).heap.size = gl + 1 := by simp [hgl2]
    obtain ⟨W5, hq_W5⟩ : ∃ x, W4.alloc (.cells #[.int .i64 nk, .int .i64 nt, .slice a2 m2 c2] 24 (0, 0)) = x := ⟨_, rfl⟩
    rw [hq_W5] at hL hm h2 hzz
    rw [hgl2] at hL
    replace hzz := And.intro (Nat.le_of_eq hzz) (Nat.le_of_eq hzz.symm)
    rw [hq_W5, hgl2]
    clear hq_W5 hs2
    replace hL := zH hL
    replace hN := zH ((uH hN).mop (uH hP) hm)
    replace hB := zH ((uH hB).mop (uH hP) hm)
    replace hR := zH ((uH hR).mop (uH hP) hm)
    have hzz := hm.size
    replace hM := zH ((uH hM).trans hm)
    replace hP := zH h2
    clear hm h2
    have hSW5 : NBlk W5 b1 kind i none 0 0 := uH hB
    refine hK_ _ _ (fun _ => hSW5) ?_
    clear hK_ K' hS
    have hS := hSW5
    try simp only [List.getElem_toArray, List.getElem_cons_succ, List.getElem_cons_zero, Act.put, List.setIfInBounds_toArray, List.set_cons_zero, List.set_cons_succ]
    refine wpAnyD_one (i := 5) rfl (by kernel_rfl) (fun K' hK_ => ?_)
    rw [if_pos (by kernel_rfl)]
    refine oper_append_rowP (.tmp 14) (.tmp 17) rfl rfl (uH hR) rfl (uH hL) (by simp only [F.len, F.app]; omega) (by omega) ?_
    intro v4 W6 hR4 hb4 hg4 hl4
    have hzg := hg4.size
    have hbl3 := (uH hB).lt
    have hbm := hb4.mono (show w.heap.size ≤ gb + 1 by omega)
    have h2 := (uH hP).belowB (uH h) hbm
    have hM4 := mop_belowB (uH h) hbm (by omega) (uH hM)
    replace hN := zH ((uH hN).same (hb4.block _ (by omega)))
    replace hB := zH ((uH hB).same (hg4.block _ hbl3 (fun e => uH hRo _ e.symm rfl)))
    replace hP := zH h2
    replace hM := zH hM4
    have hRo4 : Hid (∀ y, v4.ownBlock = some y → y ≠ b1) := zH (fun y hy => by
     rcases hl4 with e | e
     ·
      exact uH hRo y (e ▸ hy)
     ·
      rw [e] at hy
      injection hy with hy
      omega)
    replace hRo := hRo4
    obtain ⟨a5, c5, rfl, _⟩ := hR4.slO (fun y hy => ⟨by have := hR4.lt y hy; omega, uH hRo y hy⟩)
    replace hR := zH hR4
    clear hR4 hb4 hg4 hl4 hbm h2 hM4 hL hRo4
    have hSW6 : NBlk W6 b1 kind i none 0 0 := uH hB
    refine hK_ _ _ (fun _ => hSW6) ?_
    clear hK_ K' hS
    have hS := hSW6
    try simp only [List.getElem_toArray, List.getElem_cons_succ, List.getElem_cons_zero, Act.put, List.setIfInBounds_toArray, List.set_cons_zero, List.set_cons_succ]
    refine wpAnyD_one (i := 6) rfl (by kernel_rfl) (fun K' hK_ => ?_)
    rw [if_pos (by kernel_rfl)]
    refine oper_of_run (v := .pointer (some ⟨b1, 2, none⟩)) (w' := W6) (by clear hK_; go_simp) ?_
    refine hK_ _ _ (fun _ => hS) ?_
    clear hK_ K'
    try simp only [List.getElem_toArray, List.getElem_cons_succ, List.getElem_cons_zero, Act.put, List.setIfInBounds_toArray, List.set_cons_zero, List.set_cons_succ]
    refine wpAnyD_one (i := 7) rfl (by kernel_rfl) (fun K' hK_ => ?_)
    rw [if_pos (by kernel_rfl)]
    refine oper_skip (run_store_kids W6 _ _ _ _ _ _ _ _ b1 kind i none a5 0 0 (F.app F.nil (.cons nk nt nc .nil)).len c5 (uH hB) rfl rfl) ?_
    obtain ⟨h2, hM2, hB2, hh⟩ := kid_set (uH hP) (uH hM) (uH hB) (by omega) a5 (F.app F.nil (.cons nk nt nc .nil)).len c5
    have hzz : (W6.setCell ⟨b1, 2, none⟩ (.slice a5 (F.app F.nil (.cons nk nt nc .nil)).len c5)).heap.size = W6.heap.size := by simp
    obtain ⟨W7, hq_W7⟩ : ∃ x, W6.setCell ⟨b1, 2, none⟩ (.slice a5 (F.app F.nil (.cons nk nt nc .nil)).len c5) = x := ⟨_, rfl⟩
    rw [hq_W7] at h2 hM2 hB2 hh hzz
    replace hzz := And.intro (Nat.le_of_eq hzz) (Nat.le_of_eq hzz.symm)
    replace hR := zH ((uH hR).keep2 (w' := W7) (by omega) (fun y hy => hh y (uH hRo y hy)) (fun y hy _ => hh y hy.2))
    replace hN := zH ((uH hN).same (hh _ (by omega)))
    replace hB := zH hB2
    replace hM := zH hM2
    replace hP := zH h2
    clear hB2 hM2 h2 hh
    rw [hq_W7]
    clear hq_W7
    refine hK_ _ _ (fun h => by cases h) ?_
    clear hK_ K'
    try simp only [List.getElem_toArray, List.getElem_cons_succ, List.getElem_cons_zero, Act.put, List.setIfInBounds_toArray, List.set_cons_zero, List.set_cons_succ]
    clear hS
    refine wpAnyD_done (by kernel_rfl) ?_ _
    go_upto_region 3 with fail
    have hb : Below W7.heap.size W7 (World.drew W7) := (Below.refl _ _).drew
    have h2 := (uH hP).below hb
    have hm := mop_below (g := g) hb
    clear hb
    obtain ⟨WD, hq_WD⟩ : ∃ x, World.drew W7 = x := ⟨_, rfl⟩
    rw [hq_WD] at h2 hm
    replace hN := zH ((uH hN).mop (uH hP) hm)
    replace hB := zH ((uH hB).mop (uH hP) hm)
    replace hR := zH ((uH hR).mop (uH hP) hm)
    have hzz := hm.size
    replace hM := zH ((uH hM).trans hm)
    replace hP := zH h2
    clear hm h2
    have hS : NBlk WD b1 kind i a5 (F.app F.nil (.cons nk nt nc .nil)).len c5 := uH hB
    refine wp_region_D (fun w' => NBlk w' b1 kind i a5 (F.app F.nil (.cons nk nt nc .nil)).len c5) (fun j => [7].contains j) (by kernel_rfl) ?_
    rw [hq_WD]
    clear hq_WD
    have hbl := (uH hB).lt
    have hRl := (uH hR).lt
    refine wpAnyD_takeC (i := 0) (v := .pointer (some ⟨b1, 2, none⟩)) [7] (fun _ => rfl) rfl (by kernel_rfl) 3 (by kernel_rfl) rfl (by kernel_rfl) (by kernel_rfl) (by kernel_rfl) (fun _ _ _ h => h) (Or.inl ⟨by kernel_rfl, ?_⟩) hS ?_
    ·
     intro w hSw
     go_simp
    try simp only [List.getElem_toArray, List.getElem_cons_succ, List.getElem_cons_zero, Act.put, List.setIfInBounds_toArray, List.set_cons_zero, List.set_cons_succ]
    refine wpAnyD_takeC (i := 1) (v := .slice a5 (F.app F.nil (.cons nk nt nc .nil)).len c5) [7] (fun _ => rfl) rfl (by kernel_rfl) 3 (by kernel_rfl) rfl (by kernel_rfl) (by kernel_rfl) (by kernel_rfl) (fun _ _ _ h => h) (Or.inl ⟨by kernel_rfl, ?_⟩) hS ?_
    ·
     intro w hSw
     obtain ⟨e0, e1, e2⟩ := hSw.box
     go_simp
    try simp only [List.getElem_toArray, List.getElem_cons_succ, List.getElem_cons_zero, Act.put, List.setIfInBounds_toArray, List.set_cons_zero, List.set_cons_succ]
    refine wpAnyD_takeC (i := 2) (v := .pointer (some ⟨g, 0, none⟩)) [7] (fun _ => rfl) rfl (by kernel_rfl) 3 (by kernel_rfl) rfl (by kernel_rfl) (by kernel_rfl) (by kernel_rfl) (fun _ _ _ h => h) (Or.inl ⟨by kernel_rfl, ?_⟩) hS ?_
    ·
     intro w hSw
     go_simp
    try simp only [List.getElem_toArray, List.getElem_cons_succ, List.getElem_cons_zero, Act.put, List.setIfInBounds_toArray, List.set_cons_zero, List.set_cons_succ]
    refine wpAnyD_one (i := 3) rfl (by kernel_rfl) (fun K' hK_ => ?_)
    rw [if_pos (by kernel_rfl)]
    refine oper_callR (run_call1 cf_paBlock) ?_
    refine (uH hHb _ (uH hP)).mono ?_
    rintro e W8 ⟨a4, m4, c4, rfl, hs, h2, hm⟩
    dsimp only at hs
    have hzs := hm.size
    have hs2 := zH (hs.mono (P' := fun x => (gb < x ∧ x ≠ b1) ∧ (Value.slice a5 (F.app F.nil (.cons nk nt nc .nil)).len c5).ownBlock ≠ some x) (fun x hx => by have e1 := hx.1; exact ⟨⟨by omega, by omega⟩, fun e => by have := hRl x e; omega⟩))
    clear hs
    replace hN := zH ((uH hN).mop (uH hP) hm)
    replace hB := zH ((uH hB).mop (uH hP) hm)
    replace hR := zH ((uH hR).mop (uH hP) hm)
    have hzz := hm.size
    replace hM := zH ((uH hM).trans hm)
    replace hP := zH h2
    clear hm h2
    have hSW8 : NBlk W8 b1 kind i a5 (F.app F.nil (.cons nk nt nc .nil)).len c5 := uH hB
    refine hK_ _ _ (fun _ => hSW8) ?_
    clear hK_ K' hS
    have hS := hSW8
    try simp only [List.getElem_toArray, List.getElem_cons_succ, List.getElem_cons_zero, Act.put, List.setIfInBounds_toArray, List.set_cons_zero, List.set_cons_succ]
    refine wpAnyD_one (i := 4) rfl (by kernel_rfl) (fun K' hK_ => ?_)
    rw [if_pos (by kernel_rfl)]
    refine oper_of_run (run_build_one W8 _ _ _ _ _ _ _ bk bt a4 m4 c4 rfl) ?_
    have hbl2 := (uH hB).lt
    have hL := (lit1_sl (P := fun x => (gb < x ∧ x ≠ b1) ∧ (Value.slice a5 (F.app F.nil (.cons nk nt nc .nil)).len c5).ownBlock ≠ some x) W8 bk bt a4 m4 c4 bb (uH hs2) ⟨⟨by omega, by omega⟩, fun e => by have := hRl _ e; omega⟩).mono (P' := fun x => (gb < x ∧ x ≠ b1) ∧ (Value.slice a5 (F.app F.nil (.cons nk nt nc .nil)).len c5).ownBlock ≠ some x ∧ x < (W8.alloc (.cells #[.int .i64 bk, .int .i64 bt, .slice a4 m4 c4] 24 (0, 0))).heap.size) (fun x hx => ⟨hx.1.1, hx.1.2, hx.lt⟩)
    have hm := mop_below (g := g) (below_alloc W8 (.cells #[.int .i64 bk, .int .i64 bt, .slice a4 m4 c4] 24 (0, 0)))
    have h2 := (uH hP).below (below_alloc W8 (.cells #[.int .i64 bk, .int .i64 bt, .slice a4 m4 c4] 24 (0, 0)))
    obtain ⟨gl, hgl2⟩ : ∃ x, W8.heap.size = x := ⟨_, rfl⟩
    have hzz : (W8.alloc (.cells #[.int .i64 bk, .int .i64 bt, .slice a4 m4 c4] 24 (0, 0))).heap.size = gl + 1 := by simp [hgl2]
    obtain ⟨W9, hq_W9⟩ : ∃ x, W8.alloc (.cells #[.int .i64 bk, .int .i64 bt, .slice a4 m4 c4] 24 (0, 0)) = x := ⟨_, rfl⟩
    rw [hq_W9] at hL hm h2 hzz
    rw [hgl2] at hL
    replace hzz := And.intro (Nat.le_of_eq hzz) (Nat.le_of_eq hzz.symm)
    rw [hq_W9, hgl2]
    clear hq_W9 hs2
    replace hL := zH hL
    replace hN := zH ((uH hN).mop (uH hP) hm)
    replace hB := zH ((uH hB).mop (uH hP) hm)
    replace hR := zH ((uH hR).mop (uH hP) hm)
    have hzz := hm.size
    replace hM := zH ((uH hM).trans hm)
    replace hP := zH h2
    clear hm h2
    have hSW9 : NBlk W9 b1 kind i a5 (F.app F.nil (.cons nk nt nc .nil)).len c5 := uH hB
    refine hK_ _ _ (fun _ => hSW9) ?_
    clear hK_ K' hS
    have hS := hSW9
    try simp only [List.getElem_toArray, List.getElem_cons_succ, List.getElem_cons_zero, Act.put, List.setIfInBounds_toArray, List.set_cons_zero, List.set_cons_succ]
    refine wpAnyD_one (i := 5) rfl (by kernel_rfl) (fun K' hK_ => ?_)
    rw [if_pos (by kernel_rfl)]
    refine oper_append_rowP (.tmp 21) (.tmp 24) rfl rfl (uH hR) rfl (uH hL) (by simp only [F.len, F.app]; omega) (by omega) ?_
    intro v4 W10 hR4 hb4 hg4 hl4
    have hzg := hg4.size
    have hbl3 := (uH hB).lt
    have hbm := hb4.mono (show w.heap.size ≤ gb + 1 by omega)
    have h2 := (uH hP).belowB (uH h) hbm
    have hM4 := mop_belowB (uH h) hbm (by omega) (uH hM)
    replace hN := zH ((uH hN).same (hb4.block _ (by omega)))
    replace hB := zH ((uH hB).same (hg4.block _ hbl3 (fun e => uH hRo _ e.symm rfl)))
    replace hP := zH h2
    replace hM := zH hM4
    have hRo4 : Hid (∀ y, v4.ownBlock = some y → y ≠ b1) := zH (fun y hy => by
     rcases hl4 with e | e
     ·
      exact uH hRo y (e ▸ hy)
     ·
      rw [e] at hy
      injection hy with hy
      omega)
    replace hRo := hRo4
    obtain ⟨a6, c6, rfl, _⟩ := hR4.slO (fun y hy => ⟨by have := hR4.lt y hy; omega, uH hRo y hy⟩)
    replace hR := zH hR4
    clear hR4 hb4 hg4 hl4 hbm h2 hM4 hL hRo4
    have hSW10 : NBlk W10 b1 kind i a5 (F.app F.nil (.cons nk nt nc .nil)).len c5 := uH hB
    refine hK_ _ _ (fun _ => hSW10) ?_
    clear hK_ K' hS
    have hS := hSW10
    try simp only [List.getElem_toArray, List.getElem_cons_succ, List.getElem_cons_zero, Act.put, List.setIfInBounds_toArray, List.set_cons_zero, List.set_cons_succ]
    refine wpAnyD_one (i := 6) rfl (by kernel_rfl) (fun K' hK_ => ?_)
    rw [if_pos (by kernel_rfl)]
    refine oper_of_run (v := .pointer (some ⟨b1, 2, none⟩)) (w' := W10) (by clear hK_; go_simp) ?_
    refine hK_ _ _ (fun _ => hS) ?_
    clear hK_ K'
    try simp only [List.getElem_toArray, List.getElem_cons_succ, List.getElem_cons_zero, Act.put, List.setIfInBounds_toArray, List.set_cons_zero, List.set_cons_succ]
    refine wpAnyD_one (i := 7) rfl (by kernel_rfl) (fun K' hK_ => ?_)
    rw [if_pos (by kernel_rfl)]
    refine oper_skip (run_store_kids W10 _ _ _ _ _ _ _ _ b1 kind i a5 a6 (F.app F.nil (.cons nk nt nc .nil)).len c5 (F.app (F.app F.nil (.cons nk nt nc .nil)) (.cons bk bt bb .nil)).len c6 (uH hB) rfl rfl) ?_
    obtain ⟨h2, hM2, hB2, hh⟩ := kid_set (uH hP) (uH hM) (uH hB) (by omega) a6 (F.app (F.app F.nil (.cons nk nt nc .nil)) (.cons bk bt bb .nil)).len c6
    have hzz : (W10.setCell ⟨b1, 2, none⟩ (.slice a6 (F.app (F.app F.nil (.cons nk nt nc .nil)) (.cons bk bt bb .nil)).len c6)).heap.size = W10.heap.size := by simp
    obtain ⟨W11, hq_W11⟩ : ∃ x, W10.setCell ⟨b1, 2, none⟩ (.slice a6 (F.app (F.app F.nil (.cons nk nt nc .nil)) (.cons bk bt bb .nil)).len c6) = x := ⟨_, rfl⟩
    rw [hq_W11] at h2 hM2 hB2 hh hzz
    replace hzz := And.intro (Nat.le_of_eq hzz) (Nat.le_of_eq hzz.symm)
    replace hR := zH ((uH hR).keep2 (w' := W11) (by omega) (fun y hy => hh y (uH hRo y hy)) (fun y hy _ => hh y hy.2))
    replace hN := zH ((uH hN).same (hh _ (by omega)))
    replace hB := zH hB2
    replace hM := zH hM2
    replace hP := zH h2
    clear hB2 hM2 h2 hh
    rw [hq_W11]
    clear hq_W11
    refine hK_ _ _ (fun h => by cases h) ?_
    clear hK_ K'
    try simp only [List.getElem_toArray, List.getElem_cons_succ, List.getElem_cons_zero, Act.put, List.setIfInBounds_toArray, List.set_cons_zero, List.set_cons_succ]
    clear hS
    refine wpAnyD_done (by kernel_rfl) ?_ _
    obtain ⟨p0_hB, p1_hB, p2_hB⟩ := (uH hB).box
    have f0_hB := (uH hB).frozen 0
    have f1_hB := (uH hB).frozen 1
    have f2_hB := (uH hB).frozen 2
    obtain ⟨p0_hN, p1_hN, p2_hN⟩ := (uH hN).box
    have f0_hN := (uH hN).frozen 0
    have f1_hN := (uH hN).frozen 1
    have f2_hN := (uH hN).frozen 2
    have hF := zH (res_finR (k := kind) (t := i) (w := w) (gb := gb) (by omega) (uH hN) (uH hR) (fun x hx => hx.1) (uH hP) (uH hM))
    go_wp2
    obtain ⟨q1, q2, q3, q4⟩ := uH hF
    obtain ⟨u0, u1, u2⟩ := q1.box
    refine bodyPost_ret (v := .agg #[.int .i64 (kind), .int .i64 (i), .slice (a6) ((F.app (F.app F.nil (.cons nk nt nc .nil)) (.cons bk bt bb .nil)).len) (c6)]) (by simp [results, Tryz.results156, go_sem, u0, u1, u2]) rfl ?_
    exact ⟨_, _, _, rfl, (by first | exact q2 | (rw [hgb]; exact q2) | exact (q2.mono (fun y hy _ => by omega)).base (fun y hy => by have := q2.lt y hy; omega)), q3, q4⟩
end Go.Proofs.YtiknnobgoamgcaaGreatDoor

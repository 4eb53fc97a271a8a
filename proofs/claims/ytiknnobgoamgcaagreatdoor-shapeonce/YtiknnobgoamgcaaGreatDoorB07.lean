/-
  4 texts in one.
-/
import Derived.Test.YtiknnobgoamgcaaGreatDoorB06
import Derived.OrdersHeld
import Derived.WalkKit
/-
  The parser: a call.
-/
namespace Go.Proofs.YtiknnobgoamgcaaGreatDoor
open Go.RowKit Go.Lib Go.Sort
set_option linter.unusedSimpArgs false
set_option linter.unusedVariables false
theorem cf_paList (us : Array Value) (W : World) : Sem.run Tryz.prog (callFunc 110 us) W = .ok (.enter 110 us) W := by kernel_rfl
theorem run_build_one (W : World) (ev : Operand → Value) (d : Option Nat) (x : Operand) (t : TypeId) (p : String) (af : Array Edge) (gd : Option (Nat × Bool)) (k tt : Int) (a : Option Addr) (n c : Nat) (hx : ev x = .agg #[.int .i64 k, .int .i64 tt, .slice a n c]) :
  (execOp ev { dst := d, op := .buildSlice 22 1 #[(0, x)], type := t, pos := p, after := af, guard := gd }).run Tryz.prog W = .ok (.value (.slice (some ⟨W.heap.size, 0, none⟩) 1 1)) (W.alloc (.cells #[.int .i64 k, .int .i64 tt, .slice a n c] 24 (0, 0))) := by
 go_simp
/-- Where a function ends whose tree lies in P. -/
theorem res_finP {P : Nat → Prop} {g gb : Nat} {tv : Value} {L : List Tk} {j d : Nat} {w W : World} {k t k' t' : Int} {a a' : Option Addr} {m c m' c' : Nat} {f : F} (hw : w.heap.size ≤ gb) (hN : NBlk W gb k' t' a' m' c') (hS : SlQ (fun x => P x ∧ x ≠ gb) W a m c f) (hP : PaW g tv L j d W) (hM : MoP g w W) :
  NBlk (((W.setCell ⟨gb, 0, none⟩ (.int .i64 k)).setCell ⟨gb, 1, none⟩ (.int .i64 t)).setCell ⟨gb, 2, none⟩ (.slice a m c)) gb k t a m c ∧
  SlQ P (((W.setCell ⟨gb, 0, none⟩ (.int .i64 k)).setCell ⟨gb, 1, none⟩ (.int .i64 t)).setCell ⟨gb, 2, none⟩ (.slice a m c)) a m c f ∧
  PaW g tv L j d (((W.setCell ⟨gb, 0, none⟩ (.int .i64 k)).setCell ⟨gb, 1, none⟩ (.int .i64 t)).setCell ⟨gb, 2, none⟩ (.slice a m c)) ∧
  MoP g w (((W.setCell ⟨gb, 0, none⟩ (.int .i64 k)).setCell ⟨gb, 1, none⟩ (.int .i64 t)).setCell ⟨gb, 2, none⟩ (.slice a m c)) := by
 obtain ⟨q1, q2, q3, q4⟩ := box_set hP hM hN hw k t a m c
 exact ⟨q3, (hS.keep (fun x hx => q4 x hx.1.2)).mono (fun x hx => hx.1.1), q1, q2⟩
set_option maxHeartbeats 4000000 in
set_option maxRecDepth 100000 in
theorem paCall_step {g : Nat} {tv : Value} {L : List Tk} {i d : Nat} {w : World} (h : PaW g tv L i d w) (P : Nat → Prop) (k t : Int) (a : Option Addr) (m c : Nat) (x : F) {f : Nat} (HA : ExA g tv L f) (hd : d ≤ 40) (hf : f ≤ 1000000) (hPn : ∀ y, w.heap.size ≤ y → P y) (hx : SlQ P w a m c x) (hll : ∀ l j, lstA L f (i + 1) (d + 1) = .ok l j → l.len ≤ 1000000) (hne : calA L (f + 1) ⟨k, t, x⟩ i d ≠ .out) :
  Calls Tryz.prog 163 #[.pointer (some ⟨g, 0, none⟩), .agg #[.int .i64 k, .int .i64 t, .slice a m c]] w fun e w' => ResP P g tv L d w (calA L (f + 1) ⟨k, t, x⟩ i d) e w' := by
 unfold calA at hne ⊢
 by_cases hd40 : d = 40
 ·
  subst hd40
  simp only [if_true] at hne ⊢
  clear HA hll
  have hP0 := (h.alloc (.cells #[.int .i64 k, .int .i64 t, .slice a m c] 24 (0, 0))).1
  have hM0 := (h.alloc (.cells #[.int .i64 k, .int .i64 t, .slice a m c] 24 (0, 0))).2
  have hX0 := nblk_new w k t a m c
  obtain ⟨bc, hbc⟩ : ∃ x, w.heap.size = x := ⟨_, rfl⟩
  rw [hbc] at hX0 hPn
  have hz0 : (w.alloc (.cells #[.int .i64 k, .int .i64 t, .slice a m c] 24 (0, 0))).heap.size = bc + 1 := by simp [hbc]
  have hx0 := (hx.mono (P' := fun x => P x ∧ x < bc) (fun x hx => ⟨hx.1, by have := hx.lt; omega⟩)).below (below_alloc w (.cells #[.int .i64 k, .int .i64 t, .slice a m c] 24 (0, 0)))
  obtain ⟨W0, hq_W0⟩ : ∃ x, w.alloc (.cells #[.int .i64 k, .int .i64 t, .slice a m c] 24 (0, 0)) = x := ⟨_, rfl⟩
  rw [hq_W0] at hP0 hM0 hX0 hz0 hx0
  have hgl : g < bc := by have := h.lt; omega
  have hP := zH (hP0.alloc (.cells #[.int .i64 0, .int .i64 0, .slice none 0 0] 24 (0, 0))).1
  have hM := zH (hM0.trans (hP0.alloc (.cells #[.int .i64 0, .int .i64 0, .slice none 0 0] 24 (0, 0))).2)
  have hN := zH (nblk_new W0 0 0 none 0 0)
  have hX := zH (hX0.same (Below.heap_alloc _ (.cells #[.int .i64 0, .int .i64 0, .slice none 0 0] 24 (0, 0)) _ hX0.lt))
  obtain ⟨gb, hgb⟩ : ∃ gb, W0.heap.size = gb := ⟨_, rfl⟩
  have hz : (W0.alloc (.cells #[.int .i64 0, .int .i64 0, .slice none 0 0] 24 (0, 0))).heap.size = gb + 1 := by simp [hgb]
  have hzb : gb = bc + 1 := by omega
  have hs1 := zH ((hx0.below (below_alloc W0 (.cells #[.int .i64 0, .int .i64 0, .slice none 0 0] 24 (0, 0)))).mono (P' := fun x => P x ∧ x < (W0.alloc (.cells #[.int .i64 0, .int .i64 0, .slice none 0 0] 24 (0, 0))).heap.size ∧ x ≠ gb ∧ x ≠ bc) (fun x hx => ⟨hx.1.1, hx.lt, by have := hx.1.2; omega, by have := hx.1.2; omega⟩))
  rw [hgb] at hN
  obtain ⟨W1, hq_W1⟩ : ∃ W1, W0.alloc (.cells #[.int .i64 0, .int .i64 0, .slice none 0 0] 24 (0, 0)) = W1 := ⟨_, rfl⟩
  rw [hq_W1] at hP hM hN hX hz hs1
  replace hz := And.intro (Nat.le_of_eq hz) (Nat.le_of_eq hz.symm)
  replace hzb := And.intro (Nat.le_of_eq hzb) (Nat.le_of_eq hzb.symm)
  replace hz0 := And.intro (Nat.le_of_eq hz0) (Nat.le_of_eq hz0.symm)
  replace h := zH h
  replace hx := zH hx
  replace hPn := zH hPn
  clear hP0 hM0 hX0 hx0
  have hmf : ∀ (fn : Fn) (first cap : Array Value) (w : World), (Instr.makeFunc fn first cap).run Tryz.prog w = .ok (.func fn first cap) w := fun _ _ _ _ => rfl
  go_enter Tryz.func163, Tryz.ntmps163
  go_wp2_with fail
  clear hq_W1 hq_W0
  refine (paOp_any _ _).mono ?_
  rintro e W2 ⟨rfl, hb⟩
  have h2 := (uH hP).below hb
  have hm := mop_below (g := g) hb
  clear hb
  replace hN := zH ((uH hN).mop (uH hP) hm)
  replace hX := zH ((uH hX).mop (uH hP) hm)
  replace hs1 := zH ((uH hs1).mop (uH hP) hm)
  have hzz := hm.size
  replace hM := zH ((uH hM).trans hm)
  replace hP := zH h2
  clear hm h2
  go_wp2_with fail
  refine (paOpen_deep (uH hP) (opT [40])).mono ?_
  rintro e W3 hBad
  obtain rfl := hBad.1
  have hG := zH (hBad.pre (uH hM))
  clear hBad
  go_wp2
  exact ⟨rfl, uH hG⟩
 ·
  simp only [hd40, if_false] at hne ⊢
  cases ho : opA L i [40] with
  | false =>
   simp only [ho, wantA, Bool.false_eq_true, if_false] at hne ⊢
   clear HA hll
   have hP0 := (h.alloc (.cells #[.int .i64 k, .int .i64 t, .slice a m c] 24 (0, 0))).1
   have hM0 := (h.alloc (.cells #[.int .i64 k, .int .i64 t, .slice a m c] 24 (0, 0))).2
   have hX0 := nblk_new w k t a m c
   obtain ⟨bc, hbc⟩ : ∃ x, w.heap.size = x := ⟨_, rfl⟩
   rw [hbc] at hX0 hPn
   have hz0 : (w.alloc (.cells #[.int .i64 k, .int .i64 t, .slice a m c] 24 (0, 0))).heap.size = bc + 1 := by simp [hbc]
   have hx0 := (hx.mono (P' := fun x => P x ∧ x < bc) (fun x hx => ⟨hx.1, by have := hx.lt; omega⟩)).below (below_alloc w (.cells #[.int .i64 k, .int .i64 t, .slice a m c] 24 (0, 0)))
   obtain ⟨W0, hq_W0⟩ : ∃ x, w.alloc (.cells #[.int .i64 k, .int .i64 t, .slice a m c] 24 (0, 0)) = x := ⟨_, rfl⟩
   rw [hq_W0] at hP0 hM0 hX0 hz0 hx0
   have hgl : g < bc := by have := h.lt; omega
   have hP := zH (hP0.alloc (.cells #[.int .i64 0, .int .i64 0, .slice none 0 0] 24 (0, 0))).1
   have hM := zH (hM0.trans (hP0.alloc (.cells #[.int .i64 0, .int .i64 0, .slice none 0 0] 24 (0, 0))).2)
   have hN := zH (nblk_new W0 0 0 none 0 0)
   have hX := zH (hX0.same (Below.heap_alloc _ (.cells #[.int .i64 0, .int .i64 0, .slice none 0 0] 24 (0, 0)) _ hX0.lt))
   obtain ⟨gb, hgb⟩ : ∃ gb, W0.heap.size = gb := ⟨_, rfl⟩
   have hz : (W0.alloc (.cells #[.int .i64 0, .int .i64 0, .slice none 0 0] 24 (0, 0))).heap.size = gb + 1 := by simp [hgb]
   have hzb : gb = bc + 1 := by omega
   have hs1 := zH ((hx0.below (below_alloc W0 (.cells #[.int .i64 0, .int .i64 0, .slice none 0 0] 24 (0, 0)))).mono (P' := fun x => P x ∧ x < (W0.alloc (.cells #[.int .i64 0, .int .i64 0, .slice none 0 0] 24 (0, 0))).heap.size ∧ x ≠ gb ∧ x ≠ bc) (fun x hx => ⟨hx.1.1, hx.lt, by have := hx.1.2; omega, by have := hx.1.2; omega⟩))
   rw [hgb] at hN
   obtain ⟨W1, hq_W1⟩ : ∃ W1, W0.alloc (.cells #[.int .i64 0, .int .i64 0, .slice none 0 0] 24 (0, 0)) = W1 := ⟨_, rfl⟩
   rw [hq_W1] at hP hM hN hX hz hs1
   replace hz := And.intro (Nat.le_of_eq hz) (Nat.le_of_eq hz.symm)
   replace hzb := And.intro (Nat.le_of_eq hzb) (Nat.le_of_eq hzb.symm)
   replace hz0 := And.intro (Nat.le_of_eq hz0) (Nat.le_of_eq hz0.symm)
   replace h := zH h
   replace hx := zH hx
   replace hPn := zH hPn
   clear hP0 hM0 hX0 hx0
   have hmf : ∀ (fn : Fn) (first cap : Array Value) (w : World), (Instr.makeFunc fn first cap).run Tryz.prog w = .ok (.func fn first cap) w := fun _ _ _ _ => rfl
   go_enter Tryz.func163, Tryz.ntmps163
   go_wp2_with fail
   clear hq_W1 hq_W0
   refine (paOp_any _ _).mono ?_
   rintro e W2 ⟨rfl, hb⟩
   have h2 := (uH hP).below hb
   have hm := mop_below (g := g) hb
   clear hb
   replace hN := zH ((uH hN).mop (uH hP) hm)
   replace hX := zH ((uH hX).mop (uH hP) hm)
   replace hs1 := zH ((uH hs1).mop (uH hP) hm)
   have hzz := hm.size
   replace hM := zH ((uH hM).trans hm)
   replace hP := zH h2
   clear hm h2
   go_wp2_with fail
   refine (paOpen_no (uH hP) (by omega) (opT [40]) (by rw [eqB_op]; exact ho)).mono ?_
   rintro e W3 hBad
   obtain rfl := hBad.1
   have hG := zH (hBad.pre (uH hM))
   clear hBad
   go_wp2
   exact ⟨rfl, uH hG⟩
  | true =>
   simp only [ho, wantA, if_true] at hne ⊢
   have hne1 : lstA L f (i + 1) (d + 1) ≠ .out := fun e => hne (by rw [e]; rfl)
   have hH := zH (fun w h => HA.lst w (i + 1) (d + 1) h (by omega) hne1)
   clear HA hne
   cases hr : lstA L f (i + 1) (d + 1) with
   | out => exact absurd hr hne1
   | bad j =>
    rw [hr] at hH
    simp only [PR.bind]
    clear hll
    have hP0 := (h.alloc (.cells #[.int .i64 k, .int .i64 t, .slice a m c] 24 (0, 0))).1
    have hM0 := (h.alloc (.cells #[.int .i64 k, .int .i64 t, .slice a m c] 24 (0, 0))).2
    have hX0 := nblk_new w k t a m c
    obtain ⟨bc, hbc⟩ : ∃ x, w.heap.size = x := ⟨_, rfl⟩
    rw [hbc] at hX0 hPn
    have hz0 : (w.alloc (.cells #[.int .i64 k, .int .i64 t, .slice a m c] 24 (0, 0))).heap.size = bc + 1 := by simp [hbc]
    have hx0 := (hx.mono (P' := fun x => P x ∧ x < bc) (fun x hx => ⟨hx.1, by have := hx.lt; omega⟩)).below (below_alloc w (.cells #[.int .i64 k, .int .i64 t, .slice a m c] 24 (0, 0)))
    obtain ⟨W0, hq_W0⟩ : ∃ x, w.alloc (.cells #[.int .i64 k, .int .i64 t, .slice a m c] 24 (0, 0)) = x := ⟨_, rfl⟩
    rw [hq_W0] at hP0 hM0 hX0 hz0 hx0
    have hgl : g < bc := by have := h.lt; omega
    have hP := zH (hP0.alloc (.cells #[.int .i64 0, .int .i64 0, .slice none 0 0] 24 (0, 0))).1
    have hM := zH (hM0.trans (hP0.alloc (.cells #[.int .i64 0, .int .i64 0, .slice none 0 0] 24 (0, 0))).2)
    have hN := zH (nblk_new W0 0 0 none 0 0)
    have hX := zH (hX0.same (Below.heap_alloc _ (.cells #[.int .i64 0, .int .i64 0, .slice none 0 0] 24 (0, 0)) _ hX0.lt))
    obtain ⟨gb, hgb⟩ : ∃ gb, W0.heap.size = gb := ⟨_, rfl⟩
    have hz : (W0.alloc (.cells #[.int .i64 0, .int .i64 0, .slice none 0 0] 24 (0, 0))).heap.size = gb + 1 := by simp [hgb]
    have hzb : gb = bc + 1 := by omega
    have hs1 := zH ((hx0.below (below_alloc W0 (.cells #[.int .i64 0, .int .i64 0, .slice none 0 0] 24 (0, 0)))).mono (P' := fun x => P x ∧ x < (W0.alloc (.cells #[.int .i64 0, .int .i64 0, .slice none 0 0] 24 (0, 0))).heap.size ∧ x ≠ gb ∧ x ≠ bc) (fun x hx => ⟨hx.1.1, hx.lt, by have := hx.1.2; omega, by have := hx.1.2; omega⟩))
    rw [hgb] at hN
    obtain ⟨W1, hq_W1⟩ : ∃ W1, W0.alloc (.cells #[.int .i64 0, .int .i64 0, .slice none 0 0] 24 (0, 0)) = W1 := ⟨_, rfl⟩
    rw [hq_W1] at hP hM hN hX hz hs1
    replace hz := And.intro (Nat.le_of_eq hz) (Nat.le_of_eq hz.symm)
    replace hzb := And.intro (Nat.le_of_eq hzb) (Nat.le_of_eq hzb.symm)
    replace hz0 := And.intro (Nat.le_of_eq hz0) (Nat.le_of_eq hz0.symm)
    replace h := zH h
    replace hx := zH hx
    replace hPn := zH hPn
    clear hP0 hM0 hX0 hx0
    have hmf : ∀ (fn : Fn) (first cap : Array Value) (w : World), (Instr.makeFunc fn first cap).run Tryz.prog w = .ok (.func fn first cap) w := fun _ _ _ _ => rfl
    go_enter Tryz.func163, Tryz.ntmps163
    go_wp2_with fail
    clear hq_W1 hq_W0
    refine (paOp_any _ _).mono ?_
    rintro e W2 ⟨rfl, hb⟩
    have h2 := (uH hP).below hb
    have hm := mop_below (g := g) hb
    clear hb
    replace hN := zH ((uH hN).mop (uH hP) hm)
    replace hX := zH ((uH hX).mop (uH hP) hm)
    replace hs1 := zH ((uH hs1).mop (uH hP) hm)
    have hzz := hm.size
    replace hM := zH ((uH hM).trans hm)
    replace hP := zH h2
    clear hm h2
    go_wp2_with fail
    refine (paOpen_yes (uH hP) (by omega) (opT [40]) (by rw [eqB_op]; exact ho) (opA_lt ho)).mono ?_
    rintro e W3 ⟨rfl, h2, hm⟩
    replace hN := zH ((uH hN).mop (uH hP) hm)
    replace hX := zH ((uH hX).mop (uH hP) hm)
    replace hs1 := zH ((uH hs1).mop (uH hP) hm)
    have hzz := hm.size
    replace hM := zH ((uH hM).trans hm)
    replace hP := zH h2
    clear hm h2
    obtain ⟨b1, hq_b1⟩ : ∃ x, W3.heap.size = x := ⟨_, rfl⟩
    have hB := zH (nblk_new W3 26 i none 0 0)
    have hm := mop_below (g := g) (below_alloc W3 (.cells #[.int .i64 26, .int .i64 i, .slice none 0 0] 24 (0, 0)))
    have h2 := (uH hP).below (below_alloc W3 (.cells #[.int .i64 26, .int .i64 i, .slice none 0 0] 24 (0, 0)))
    have hzs : (W3.alloc (.cells #[.int .i64 26, .int .i64 i, .slice none 0 0] 24 (0, 0))).heap.size = b1 + 1 := by simp [hq_b1]
    obtain ⟨W4, hq_W4⟩ : ∃ x, W3.alloc (.cells #[.int .i64 26, .int .i64 i, .slice none 0 0] 24 (0, 0)) = x := ⟨_, rfl⟩
    rw [hq_W4] at hB hm h2 hzs
    replace hzs := And.intro (Nat.le_of_eq hzs) (Nat.le_of_eq hzs.symm)
    rw [hq_b1] at hB
    replace hq_W4 := zH hq_W4
    replace hN := zH ((uH hN).mop (uH hP) hm)
    replace hX := zH ((uH hX).mop (uH hP) hm)
    replace hs1 := zH ((uH hs1).mop (uH hP) hm)
    have hzz := hm.size
    replace hM := zH ((uH hM).trans hm)
    replace hP := zH h2
    clear hm h2
    go_upto_region 2 with fail
    rw [uH hq_W4]
    clear hq_W4
    have hb : Below W4.heap.size W4 (World.drew W4) := (Below.refl _ _).drew
    have h2 := (uH hP).below hb
    have hm := mop_below (g := g) hb
    clear hb
    obtain ⟨WD, hq_WD⟩ : ∃ x, World.drew W4 = x := ⟨_, rfl⟩
    rw [hq_WD] at h2 hm
    replace hN := zH ((uH hN).mop (uH hP) hm)
    replace hX := zH ((uH hX).mop (uH hP) hm)
    replace hB := zH ((uH hB).mop (uH hP) hm)
    replace hs1 := zH ((uH hs1).mop (uH hP) hm)
    have hzz := hm.size
    replace hM := zH ((uH hM).trans hm)
    replace hP := zH h2
    clear hm h2
    have hbl := (uH hB).lt
    have hS : NBlk WD bc k t a m c := uH hX
    refine wp_region_held_drew (S := fun w' => NBlk w' bc k t a m c) (by kernel_rfl) (by rw [hq_WD]; exact hS) (fun _ => ?_)
    rw [hq_WD]
    clear hq_WD
    refine wpAnyH_take (i := 0) (v := .agg #[.int .i64 k, .int .i64 t, .slice a m c]) rfl (by kernel_rfl) (by kernel_rfl) (by kernel_rfl) (fun _ _ _ h => h) (Or.inl ⟨by kernel_rfl, ?_⟩) hS ?_
    ·
     intro w hSw
     obtain ⟨e0, e1, e2⟩ := hSw.box
     go_simp
    try simp only [List.getElem_toArray, List.getElem_cons_succ, List.getElem_cons_zero, Act.put, List.setIfInBounds_toArray, List.set_cons_zero, List.set_cons_succ]
    refine wpAnyH_take (i := 2) (v := .pointer (some ⟨g, 0, none⟩)) rfl (by kernel_rfl) (by kernel_rfl) (by kernel_rfl) (fun _ _ _ h => h) (Or.inl ⟨by kernel_rfl, ?_⟩) hS ?_
    ·
     intro w hSw
     go_simp
    try simp only [List.getElem_toArray, List.getElem_cons_succ, List.getElem_cons_zero, Act.put, List.setIfInBounds_toArray, List.set_cons_zero, List.set_cons_succ]
    refine wpAnyH_take (i := 3) (v := .pointer (some ⟨g, 0, none⟩)) rfl (by kernel_rfl) (by kernel_rfl) (by kernel_rfl) (fun _ _ _ h => h) (Or.inl ⟨by kernel_rfl, ?_⟩) hS ?_
    ·
     intro w hSw
     go_simp
    try simp only [List.getElem_toArray, List.getElem_cons_succ, List.getElem_cons_zero, Act.put, List.setIfInBounds_toArray, List.set_cons_zero, List.set_cons_succ]
    refine wpAnyH_take (i := 4) (v := .func (.func 105) #[.pointer (some ⟨g, 0, none⟩)] #[]) rfl (by kernel_rfl) (by kernel_rfl) (by kernel_rfl) (fun _ _ _ h => h) (Or.inl ⟨by kernel_rfl, ?_⟩) hS ?_
    ·
     intro w hSw
     go_simp
    try simp only [List.getElem_toArray, List.getElem_cons_succ, List.getElem_cons_zero, Act.put, List.setIfInBounds_toArray, List.set_cons_zero, List.set_cons_succ]
    refine wpAnyH_ready (rs := [1, 5]) (by kernel_rfl) (by decide) ?_
    refine AllReadyH.cons rfl (fun K' hK => ?_) (AllReadyH.cons rfl (fun K' hK => ?_) AllReadyH.nil)
    ·
     rw [if_pos (by kernel_rfl)]
     refine oper_of_run (run_build_one WD _ _ _ _ _ _ _ k t a m c rfl) ?_
     have hzW := (uH hB).lt
     have hR := zH (rowP_one (P := fun x => P x ∧ x ≠ gb ∧ x ≠ bc ∧ x ≠ b1) (w := WD) (B := b1 + 1) (k := k) (t := t) hzW ((uH hs1).mono (fun x hx => ⟨hx.1.1, hx.1.2.2.1, hx.1.2.2.2, by have e1 := hx.1.2.1; omega⟩)))
     have hm := mop_below (g := g) (below_alloc WD (.cells #[.int .i64 k, .int .i64 t, .slice a m c] 24 (0, 0)))
     have h2 := (uH hP).below (below_alloc WD (.cells #[.int .i64 k, .int .i64 t, .slice a m c] 24 (0, 0)))
     obtain ⟨gl, hgl2⟩ : ∃ x, WD.heap.size = x := ⟨_, rfl⟩
     have hzz : (WD.alloc (.cells #[.int .i64 k, .int .i64 t, .slice a m c] 24 (0, 0))).heap.size = gl + 1 := by simp [hgl2]
     obtain ⟨W5, hq_W5⟩ : ∃ x, WD.alloc (.cells #[.int .i64 k, .int .i64 t, .slice a m c] 24 (0, 0)) = x := ⟨_, rfl⟩
     rw [hq_W5] at hR hm h2 hzz
     rw [hgl2] at hR
     replace hzz := And.intro (Nat.le_of_eq hzz) (Nat.le_of_eq hzz.symm)
     rw [hq_W5, hgl2]
     clear hq_W5
     replace hN := zH ((uH hN).mop (uH hP) hm)
     replace hX := zH ((uH hX).mop (uH hP) hm)
     replace hB := zH ((uH hB).mop (uH hP) hm)
     replace hs1 := zH ((uH hs1).mop (uH hP) hm)
     have hzz := hm.size
     replace hM := zH ((uH hM).trans hm)
     replace hP := zH h2
     clear hm h2
     have hSW5 : NBlk W5 bc k t a m c := uH hX
     refine hK.out _ _ hSW5 (fun _ => ?_)
     clear hK K' hS
     have hS := hSW5
     try simp only [List.getElem_toArray, List.getElem_cons_succ, List.getElem_cons_zero, Act.put, List.setIfInBounds_toArray, List.set_cons_zero, List.set_cons_succ]
     refine wpAnyH_ready (rs := [5]) (by kernel_rfl) (by decide) ?_
     refine AllReadyH.cons rfl (fun K' hK => ?_) AllReadyH.nil
     rw [if_pos (by kernel_rfl)]
     refine oper_callR (run_call2 cf_paList) ?_
     refine (uH hH _ (uH hP)).mono ?_
     rintro e W6 hBad
     obtain rfl := hBad.1
     have hG := zH (hBad.pre (uH hM))
     clear hBad
     go_wp2
     exact ⟨rfl, uH hG⟩
    ·
     rw [if_pos (by kernel_rfl)]
     refine oper_callR (run_call2 cf_paList) ?_
     refine (uH hH _ (uH hP)).mono ?_
     rintro e W5 hBad
     obtain rfl := hBad.1
     have hG := zH (hBad.pre (uH hM))
     clear hBad
     go_wp2
     exact ⟨rfl, uH hG⟩
   | ok l j =>
    have hlen := zH (hll l j hr)
    rw [hr] at hH
    simp only [PR.bind, one]
    clear hll
    have hP0 := (h.alloc (.cells #[.int .i64 k, .int .i64 t, .slice a m c] 24 (0, 0))).1
    have hM0 := (h.alloc (.cells #[.int .i64 k, .int .i64 t, .slice a m c] 24 (0, 0))).2
    have hX0 := nblk_new w k t a m c
    obtain ⟨bc, hbc⟩ : ∃ x, w.heap.size = x := ⟨_, rfl⟩
    rw [hbc] at hX0 hPn
    have hz0 : (w.alloc (.cells #[.int .i64 k, .int .i64 t, .slice a m c] 24 (0, 0))).heap.size = bc + 1 := by simp [hbc]
    have hx0 := (hx.mono (P' := fun x => P x ∧ x < bc) (fun x hx => ⟨hx.1, by have := hx.lt; omega⟩)).below (below_alloc w (.cells #[.int .i64 k, .int .i64 t, .slice a m c] 24 (0, 0)))
    obtain ⟨W0, hq_W0⟩ : ∃ x, w.alloc (.cells #[.int .i64 k, .int .i64 t, .slice a m c] 24 (0, 0)) = x := ⟨_, rfl⟩
    rw [hq_W0] at hP0 hM0 hX0 hz0 hx0
    have hgl : g < bc := by have := h.lt; omega
    have hP := zH (hP0.alloc (.cells #[.int .i64 0, .int .i64 0, .slice none 0 0] 24 (0, 0))).1
    have hM := zH (hM0.trans (hP0.alloc (.cells #[.int .i64 0, .int .i64 0, .slice none 0 0] 24 (0, 0))).2)
    have hN := zH (nblk_new W0 0 0 none 0 0)
    have hX := zH (hX0.same (Below.heap_alloc _ (.cells #[.int .i64 0, .int .i64 0, .slice none 0 0] 24 (0, 0)) _ hX0.lt))
    obtain ⟨gb, hgb⟩ : ∃ gb, W0.heap.size = gb := ⟨_, rfl⟩
    have hz : (W0.alloc (.cells #[.int .i64 0, .int .i64 0, .slice none 0 0] 24 (0, 0))).heap.size = gb + 1 := by simp [hgb]
    have hzb : gb = bc + 1 := by omega
    have hs1 := zH ((hx0.below (below_alloc W0 (.cells #[.int .i64 0, .int .i64 0, .slice none 0 0] 24 (0, 0)))).mono (P' := fun x => P x ∧ x < (W0.alloc (.cells #[.int .i64 0, .int .i64 0, .slice none 0 0] 24 (0, 0))).heap.size ∧ x ≠ gb ∧ x ≠ bc) (fun x hx => ⟨hx.1.1, hx.lt, by have := hx.1.2; omega, by have := hx.1.2; omega⟩))
    rw [hgb] at hN
    obtain ⟨W1, hq_W1⟩ : ∃ W1, W0.alloc (.cells #[.int .i64 0, .int .i64 0, .slice none 0 0] 24 (0, 0)) = W1 := ⟨_, rfl⟩
    rw [hq_W1] at hP hM hN hX hz hs1
    replace hz := And.intro (Nat.le_of_eq hz) (Nat.le_of_eq hz.symm)
    replace hzb := And.intro (Nat.le_of_eq hzb) (Nat.le_of_eq hzb.symm)
    replace hz0 := And.intro (Nat.le_of_eq hz0) (Nat.le_of_eq hz0.symm)
    replace h := zH h
    replace hx := zH hx
    replace hPn := zH hPn
    clear hP0 hM0 hX0 hx0
    have hmf : ∀ (fn : Fn) (first cap : Array Value) (w : World), (Instr.makeFunc fn first cap).run Tryz.prog w = .ok (.func fn first cap) w := fun _ _ _ _ => rfl
    go_enter Tryz.func163, Tryz.ntmps163
    go_wp2_with fail
    clear hq_W1 hq_W0
    refine (paOp_any _ _).mono ?_
    rintro e W2 ⟨rfl, hb⟩
    have h2 := (uH hP).below hb
    have hm := mop_below (g := g) hb
    clear hb
    replace hN := zH ((uH hN).mop (uH hP) hm)
    replace hX := zH ((uH hX).mop (uH hP) hm)
    replace hs1 := zH ((uH hs1).mop (uH hP) hm)
    have hzz := hm.size
    replace hM := zH ((uH hM).trans hm)
    replace hP := zH h2
    clear hm h2
    go_wp2_with fail
    refine (paOpen_yes (uH hP) (by omega) (opT [40]) (by rw [eqB_op]; exact ho) (opA_lt ho)).mono ?_
    rintro e W3 ⟨rfl, h2, hm⟩
    replace hN := zH ((uH hN).mop (uH hP) hm)
    replace hX := zH ((uH hX).mop (uH hP) hm)
    replace hs1 := zH ((uH hs1).mop (uH hP) hm)
    have hzz := hm.size
    replace hM := zH ((uH hM).trans hm)
    replace hP := zH h2
    clear hm h2
    obtain ⟨b1, hq_b1⟩ : ∃ x, W3.heap.size = x := ⟨_, rfl⟩
    have hB := zH (nblk_new W3 26 i none 0 0)
    have hm := mop_below (g := g) (below_alloc W3 (.cells #[.int .i64 26, .int .i64 i, .slice none 0 0] 24 (0, 0)))
    have h2 := (uH hP).below (below_alloc W3 (.cells #[.int .i64 26, .int .i64 i, .slice none 0 0] 24 (0, 0)))
    have hzs : (W3.alloc (.cells #[.int .i64 26, .int .i64 i, .slice none 0 0] 24 (0, 0))).heap.size = b1 + 1 := by simp [hq_b1]
    obtain ⟨W4, hq_W4⟩ : ∃ x, W3.alloc (.cells #[.int .i64 26, .int .i64 i, .slice none 0 0] 24 (0, 0)) = x := ⟨_, rfl⟩
    rw [hq_W4] at hB hm h2 hzs
    replace hzs := And.intro (Nat.le_of_eq hzs) (Nat.le_of_eq hzs.symm)
    rw [hq_b1] at hB
    replace hq_W4 := zH hq_W4
    replace hN := zH ((uH hN).mop (uH hP) hm)
    replace hX := zH ((uH hX).mop (uH hP) hm)
    replace hs1 := zH ((uH hs1).mop (uH hP) hm)
    have hzz := hm.size
    replace hM := zH ((uH hM).trans hm)
    replace hP := zH h2
    clear hm h2
    go_upto_region 2 with fail
    rw [uH hq_W4]
    clear hq_W4
    have hb : Below W4.heap.size W4 (World.drew W4) := (Below.refl _ _).drew
    have h2 := (uH hP).below hb
    have hm := mop_below (g := g) hb
    clear hb
    obtain ⟨WD, hq_WD⟩ : ∃ x, World.drew W4 = x := ⟨_, rfl⟩
    rw [hq_WD] at h2 hm
    replace hN := zH ((uH hN).mop (uH hP) hm)
    replace hX := zH ((uH hX).mop (uH hP) hm)
    replace hB := zH ((uH hB).mop (uH hP) hm)
    replace hs1 := zH ((uH hs1).mop (uH hP) hm)
    have hzz := hm.size
    replace hM := zH ((uH hM).trans hm)
    replace hP := zH h2
    clear hm h2
    have hbl := (uH hB).lt
    have hS : NBlk WD bc k t a m c := uH hX
    refine wp_region_held_drew (S := fun w' => NBlk w' bc k t a m c) (by kernel_rfl) (by rw [hq_WD]; exact hS) (fun _ => ?_)
    rw [hq_WD]
    clear hq_WD
    refine wpAnyH_take (i := 0) (v := .agg #[.int .i64 k, .int .i64 t, .slice a m c]) rfl (by kernel_rfl) (by kernel_rfl) (by kernel_rfl) (fun _ _ _ h => h) (Or.inl ⟨by kernel_rfl, ?_⟩) hS ?_
    ·
     intro w hSw
     obtain ⟨e0, e1, e2⟩ := hSw.box
     go_simp
    try simp only [List.getElem_toArray, List.getElem_cons_succ, List.getElem_cons_zero, Act.put, List.setIfInBounds_toArray, List.set_cons_zero, List.set_cons_succ]
    refine wpAnyH_take (i := 2) (v := .pointer (some ⟨g, 0, none⟩)) rfl (by kernel_rfl) (by kernel_rfl) (by kernel_rfl) (fun _ _ _ h => h) (Or.inl ⟨by kernel_rfl, ?_⟩) hS ?_
    ·
     intro w hSw
     go_simp
    try simp only [List.getElem_toArray, List.getElem_cons_succ, List.getElem_cons_zero, Act.put, List.setIfInBounds_toArray, List.set_cons_zero, List.set_cons_succ]
    refine wpAnyH_take (i := 3) (v := .pointer (some ⟨g, 0, none⟩)) rfl (by kernel_rfl) (by kernel_rfl) (by kernel_rfl) (fun _ _ _ h => h) (Or.inl ⟨by kernel_rfl, ?_⟩) hS ?_
    ·
     intro w hSw
     go_simp
    try simp only [List.getElem_toArray, List.getElem_cons_succ, List.getElem_cons_zero, Act.put, List.setIfInBounds_toArray, List.set_cons_zero, List.set_cons_succ]
    refine wpAnyH_take (i := 4) (v := .func (.func 105) #[.pointer (some ⟨g, 0, none⟩)] #[]) rfl (by kernel_rfl) (by kernel_rfl) (by kernel_rfl) (fun _ _ _ h => h) (Or.inl ⟨by kernel_rfl, ?_⟩) hS ?_
    ·
     intro w hSw
     go_simp
    try simp only [List.getElem_toArray, List.getElem_cons_succ, List.getElem_cons_zero, Act.put, List.setIfInBounds_toArray, List.set_cons_zero, List.set_cons_succ]
    refine wpAnyH_ready (rs := [1, 5]) (by kernel_rfl) (by decide) ?_
    refine AllReadyH.cons rfl (fun K' hK => ?_) (AllReadyH.cons rfl (fun K' hK => ?_) AllReadyH.nil)
    ·
     rw [if_pos (by kernel_rfl)]
     refine oper_of_run (run_build_one WD _ _ _ _ _ _ _ k t a m c rfl) ?_
     have hzW := (uH hB).lt
     have hR := zH (rowP_one (P := fun x => P x ∧ x ≠ gb ∧ x ≠ bc ∧ x ≠ b1) (w := WD) (B := b1 + 1) (k := k) (t := t) hzW ((uH hs1).mono (fun x hx => ⟨hx.1.1, hx.1.2.2.1, hx.1.2.2.2, by have e1 := hx.1.2.1; omega⟩)))
     have hm := mop_below (g := g) (below_alloc WD (.cells #[.int .i64 k, .int .i64 t, .slice a m c] 24 (0, 0)))
     have h2 := (uH hP).below (below_alloc WD (.cells #[.int .i64 k, .int .i64 t, .slice a m c] 24 (0, 0)))
     obtain ⟨gl, hgl2⟩ : ∃ x, WD.heap.size = x := ⟨_, rfl⟩
     have hzz : (WD.alloc (.cells #[.int .i64 k, .int .i64 t, .slice a m c] 24 (0, 0))).heap.size = gl + 1 := by simp [hgl2]
     obtain ⟨W5, hq_W5⟩ : ∃ x, WD.alloc (.cells #[.int .i64 k, .int .i64 t, .slice a m c] 24 (0, 0)) = x := ⟨_, rfl⟩
     rw [hq_W5] at hR hm h2 hzz
     rw [hgl2] at hR
     replace hzz := And.intro (Nat.le_of_eq hzz) (Nat.le_of_eq hzz.symm)
     rw [hq_W5, hgl2]
     clear hq_W5
     replace hN := zH ((uH hN).mop (uH hP) hm)
     replace hX := zH ((uH hX).mop (uH hP) hm)
     replace hB := zH ((uH hB).mop (uH hP) hm)
     replace hs1 := zH ((uH hs1).mop (uH hP) hm)
     have hzz := hm.size
     replace hM := zH ((uH hM).trans hm)
     replace hP := zH h2
     clear hm h2
     have hSW5 : NBlk W5 bc k t a m c := uH hX
     refine hK.out _ _ hSW5 (fun _ => ?_)
     clear hK K' hS
     have hS := hSW5
     try simp only [List.getElem_toArray, List.getElem_cons_succ, List.getElem_cons_zero, Act.put, List.setIfInBounds_toArray, List.set_cons_zero, List.set_cons_succ]
     refine wpAnyH_ready (rs := [5]) (by kernel_rfl) (by decide) ?_
     refine AllReadyH.cons rfl (fun K' hK => ?_) AllReadyH.nil
     rw [if_pos (by kernel_rfl)]
     refine oper_callR (run_call2 cf_paList) ?_
     refine (uH hH _ (uH hP)).mono ?_
     rintro e W6 ⟨a2, c2, rfl, hs, h2, hm⟩
     have hzs := hm.size
     have hbl2 := (uH hB).lt
     have hrl := (uH hR).lt
     have hs2 := zH (hs.mono (P' := fun x => (P x ∧ x ≠ gb ∧ x ≠ bc ∧ x ≠ b1) ∧ (Value.slice (some ⟨gl, 0, none⟩) 1 1).ownBlock ≠ some x ∧ x < W6.heap.size) (fun x hx => by have e1 := hx.1; have e2 := hx.lt; exact ⟨⟨uH hPn x (by omega), by omega, by omega, by omega⟩, fun e => by have := hrl x e; omega, e2⟩))
     clear hs hrl
     replace hR := zH ((uH hR).mop (uH hP) hm)
     replace hN := zH ((uH hN).mop (uH hP) hm)
     replace hX := zH ((uH hX).mop (uH hP) hm)
     replace hB := zH ((uH hB).mop (uH hP) hm)
     replace hs1 := zH ((uH hs1).mop (uH hP) hm)
     have hzz := hm.size
     replace hM := zH ((uH hM).trans hm)
     replace hP := zH h2
     clear hm h2
     have hSW6 : NBlk W6 bc k t a m c := uH hX
     refine hK.out _ _ hSW6 (fun _ => ?_)
     clear hK K' hS
     have hS := hSW6
     try simp only [List.getElem_toArray, List.getElem_cons_succ, List.getElem_cons_zero, Act.put, List.setIfInBounds_toArray, List.set_cons_zero, List.set_cons_succ]
     refine wpAnyH_ready (rs := [6]) (by kernel_rfl) (by decide) ?_
     refine AllReadyH.cons rfl (fun K' hK => ?_) AllReadyH.nil
     rw [if_pos (by kernel_rfl)]
     refine oper_append_rowP (.tmp 11) (.tmp 15) rfl rfl (uH hR) rfl (uH hs2) (by have := uH hlen; simp only [F.len]; omega) (by omega) ?_
     intro v4 W7 hR4 hb4 hg4 hl4
     have hzg := hg4.size
     have hbm := hb4.mono (show w.heap.size ≤ b1 + 1 by omega)
     have h2 := (uH hP).belowB (uH h) hbm
     have hM4 := mop_belowB (uH h) hbm (by omega) (uH hM)
     replace hN := zH ((uH hN).same (hb4.block _ (by omega)))
     replace hX := zH ((uH hX).same (hb4.block _ (by omega)))
     replace hB := zH ((uH hB).same (hb4.block _ (by omega)))
     replace hP := zH h2
     replace hM := zH hM4
     obtain ⟨a5, c5, rfl, hs5⟩ := hR4.sl (fun x hx => ⟨uH hPn x (by omega), by omega, by omega, by omega⟩)
     have hs3 := zH (hs5.mono (P' := fun x => P x ∧ x < W7.heap.size ∧ x ≠ gb ∧ x ≠ bc ∧ x ≠ b1) (fun x hx => ⟨hx.1.1, hx.lt, hx.1.2.1, hx.1.2.2.1, hx.1.2.2.2⟩))
     have hfl : (F.app (.cons k t x .nil) l).len = l.len + 1 := by simp only [F.app, F.len]
     rw [hfl] at hs3
     simp only [hfl]
     clear hR4 hb4 hg4 hl4 hbm h2 hM4 hs5 hR hs2 hfl
     have hSW7 : NBlk W7 bc k t a m c := uH hX
     refine hK.out _ _ hSW7 (fun _ => ?_)
     clear hK K' hS
     have hS := hSW7
     try simp only [List.getElem_toArray, List.getElem_cons_succ, List.getElem_cons_zero, Act.put, List.setIfInBounds_toArray, List.set_cons_zero, List.set_cons_succ]
     refine wpAnyH_ready (rs := [7]) (by kernel_rfl) (by decide) ?_
     refine AllReadyH.cons rfl (fun K' hK => ?_) AllReadyH.nil
     rw [if_pos (by kernel_rfl)]
     refine oper_of_run (v := .pointer (some ⟨b1, 2, none⟩)) (w' := W7) (by clear hK; go_simp) ?_
     refine hK.out _ _ hS (fun _ => ?_)
     clear hK K'
     try simp only [List.getElem_toArray, List.getElem_cons_succ, List.getElem_cons_zero, Act.put, List.setIfInBounds_toArray, List.set_cons_zero, List.set_cons_succ]
     refine wpAnyH_ready (rs := [8]) (by kernel_rfl) (by decide) ?_
     refine AllReadyH.cons rfl (fun K' hK => ?_) AllReadyH.nil
     rw [if_pos (by kernel_rfl)]
     refine oper_skip (run_store_kids W7 _ _ _ _ _ _ _ _ b1 26 i none (a5) 0 0 (l.len + 1) c5 (uH hB) rfl rfl) ?_
     obtain ⟨h2, hM2, hB2, hh⟩ := kid_set (uH hP) (uH hM) (uH hB) (by omega) a5 (l.len + 1) c5
     have hzz : (W7.setCell ⟨b1, 2, none⟩ (.slice a5 (l.len + 1) c5)).heap.size = W7.heap.size := by simp
     obtain ⟨W8, hq_W8⟩ : ∃ x, W7.setCell ⟨b1, 2, none⟩ (.slice a5 (l.len + 1) c5) = x := ⟨_, rfl⟩
     rw [hq_W8] at h2 hM2 hB2 hh hzz
     replace hzz := And.intro (Nat.le_of_eq hzz) (Nat.le_of_eq hzz.symm)
     replace hN := zH ((uH hN).same (hh _ (by omega)))
     replace hX := zH ((uH hX).same (hh _ (by omega)))
     replace hs3 := zH ((uH hs3).keep (w' := W8) (fun x hx => hh x (by have e1 := hx.1; omega)))
     replace hB := zH hB2
     replace hM := zH hM2
     replace hP := zH h2
     clear hB2 hM2 h2 hh
     rw [hq_W8]
     clear hq_W8
     have hSW8 : NBlk W8 bc k t a m c := uH hX
     refine hK.out _ _ hSW8 (fun _ => ?_)
     clear hK K' hS
     try simp only [List.getElem_toArray, List.getElem_cons_succ, List.getElem_cons_zero, Act.put, List.setIfInBounds_toArray, List.set_cons_zero, List.set_cons_succ]
     refine wpAnyH_done (by kernel_rfl) ?_ _
     go_wp2_with fail
     refine (paLeave_any (uH hP) (by omega)).mono ?_
     rintro e W9 ⟨rfl, h2, hm⟩
     replace hN := zH ((uH hN).mop (uH hP) hm)
     replace hX := zH ((uH hX).mop (uH hP) hm)
     replace hB := zH ((uH hB).mop (uH hP) hm)
     replace hs3 := zH ((uH hs3).mop (uH hP) hm)
     have hzz := hm.size
     replace hM := zH ((uH hM).trans hm)
     replace hP := zH h2
     clear hm h2
     obtain ⟨p0_hB, p1_hB, p2_hB⟩ := (uH hB).box
     have f0_hB := (uH hB).frozen 0
     have f1_hB := (uH hB).frozen 1
     have f2_hB := (uH hB).frozen 2
     obtain ⟨p0_hN, p1_hN, p2_hN⟩ := (uH hN).box
     have f0_hN := (uH hN).frozen 0
     have f1_hN := (uH hN).frozen 1
     have f2_hN := (uH hN).frozen 2
     have hF := zH (res_finP (P := P) (k := 26) (t := i) (a := a5) (m := l.len + 1) (c := c5) (w := w) (gb := gb) (by omega) (uH hN) ((uH hs3).mono (fun x hx => ⟨hx.1.1, hx.1.2.2.1⟩)) (uH hP) (uH hM))
     go_wp2
     obtain ⟨q1, q2, q3, q4⟩ := uH hF
     obtain ⟨u0, u1, u2⟩ := q1.box
     refine bodyPost_ret (v := .agg #[.int .i64 26, .int .i64 i, .slice a5 (l.len + 1) c5]) (by simp [results, Tryz.results163, go_sem, u0, u1, u2]) rfl ?_
     exact ⟨_, _, _, rfl, q2, q3, q4⟩
    ·
     rw [if_pos (by kernel_rfl)]
     refine oper_callR (run_call2 cf_paList) ?_
     refine (uH hH _ (uH hP)).mono ?_
     rintro e W5 ⟨a2, c2, rfl, hs, h2, hm⟩
     have hzs := hm.size
     have hbl2 := (uH hB).lt
     have hs2 := zH (hs.mono (P' := fun x => (P x ∧ x ≠ gb ∧ x ≠ bc ∧ x ≠ b1) ∧ x < W5.heap.size) (fun x hx => by have e1 := hx.1; have e2 := hx.lt; exact ⟨⟨uH hPn x (by omega), by omega, by omega, by omega⟩, e2⟩))
     clear hs
     replace hN := zH ((uH hN).mop (uH hP) hm)
     replace hX := zH ((uH hX).mop (uH hP) hm)
     replace hB := zH ((uH hB).mop (uH hP) hm)
     replace hs1 := zH ((uH hs1).mop (uH hP) hm)
     have hzz := hm.size
     replace hM := zH ((uH hM).trans hm)
     replace hP := zH h2
     clear hm h2
     have hSW5 : NBlk W5 bc k t a m c := uH hX
     refine hK.out _ _ hSW5 (fun _ => ?_)
     clear hK K' hS
     have hS := hSW5
     try simp only [List.getElem_toArray, List.getElem_cons_succ, List.getElem_cons_zero, Act.put, List.setIfInBounds_toArray, List.set_cons_zero, List.set_cons_succ]
     refine wpAnyH_ready (rs := [1]) (by kernel_rfl) (by decide) ?_
     refine AllReadyH.cons rfl (fun K' hK => ?_) AllReadyH.nil
     rw [if_pos (by kernel_rfl)]
     refine oper_of_run (run_build_one W5 _ _ _ _ _ _ _ k t a m c rfl) ?_
     have hzW := (uH hB).lt
     have hR := zH (rowP_one (P := fun x => P x ∧ x ≠ gb ∧ x ≠ bc ∧ x ≠ b1) (w := W5) (B := b1 + 1) (k := k) (t := t) hzW ((uH hs1).mono (fun x hx => ⟨hx.1.1, hx.1.2.2.1, hx.1.2.2.2, by have e1 := hx.1.2.1; omega⟩)))
     have hm := mop_below (g := g) (below_alloc W5 (.cells #[.int .i64 k, .int .i64 t, .slice a m c] 24 (0, 0)))
     have h2 := (uH hP).below (below_alloc W5 (.cells #[.int .i64 k, .int .i64 t, .slice a m c] 24 (0, 0)))
     obtain ⟨gl, hgl2⟩ : ∃ x, W5.heap.size = x := ⟨_, rfl⟩
     have hzz : (W5.alloc (.cells #[.int .i64 k, .int .i64 t, .slice a m c] 24 (0, 0))).heap.size = gl + 1 := by simp [hgl2]
     obtain ⟨W6, hq_W6⟩ : ∃ x, W5.alloc (.cells #[.int .i64 k, .int .i64 t, .slice a m c] 24 (0, 0)) = x := ⟨_, rfl⟩
     rw [hq_W6] at hR hm h2 hzz
     rw [hgl2] at hR
     replace hzz := And.intro (Nat.le_of_eq hzz) (Nat.le_of_eq hzz.symm)
     rw [hq_W6, hgl2]
     clear hq_W6
     replace hN := zH ((uH hN).mop (uH hP) hm)
     replace hX := zH ((uH hX).mop (uH hP) hm)
     replace hB := zH ((uH hB).mop (uH hP) hm)
     replace hs1 := zH ((uH hs1).mop (uH hP) hm)
     replace hs2 := zH ((uH hs2).mop (uH hP) hm)
     have hzz := hm.size
     replace hM := zH ((uH hM).trans hm)
     replace hP := zH h2
     clear hm h2
     replace hs2 := zH ((uH hs2).mono (P' := fun x => (P x ∧ x ≠ gb ∧ x ≠ bc ∧ x ≠ b1) ∧ (Value.slice (some ⟨gl, 0, none⟩) 1 1).ownBlock ≠ some x ∧ x < W6.heap.size) (fun x hx => ⟨hx.1.1, fun e => by
      have e : gl = x := by simpa [Value.ownBlock] using e
      have := hx.1.2; omega, hx.lt⟩))
     have hSW6 : NBlk W6 bc k t a m c := uH hX
     refine hK.out _ _ hSW6 (fun _ => ?_)
     clear hK K' hS
     have hS := hSW6
     try simp only [List.getElem_toArray, List.getElem_cons_succ, List.getElem_cons_zero, Act.put, List.setIfInBounds_toArray, List.set_cons_zero, List.set_cons_succ]
     refine wpAnyH_ready (rs := [6]) (by kernel_rfl) (by decide) ?_
     refine AllReadyH.cons rfl (fun K' hK => ?_) AllReadyH.nil
     rw [if_pos (by kernel_rfl)]
     refine oper_append_rowP (.tmp 11) (.tmp 15) rfl rfl (uH hR) rfl (uH hs2) (by have := uH hlen; simp only [F.len]; omega) (by omega) ?_
     intro v4 W7 hR4 hb4 hg4 hl4
     have hzg := hg4.size
     have hbm := hb4.mono (show w.heap.size ≤ b1 + 1 by omega)
     have h2 := (uH hP).belowB (uH h) hbm
     have hM4 := mop_belowB (uH h) hbm (by omega) (uH hM)
     replace hN := zH ((uH hN).same (hb4.block _ (by omega)))
     replace hX := zH ((uH hX).same (hb4.block _ (by omega)))
     replace hB := zH ((uH hB).same (hb4.block _ (by omega)))
     replace hP := zH h2
     replace hM := zH hM4
     obtain ⟨a5, c5, rfl, hs5⟩ := hR4.sl (fun x hx => ⟨uH hPn x (by omega), by omega, by omega, by omega⟩)
     have hs3 := zH (hs5.mono (P' := fun x => P x ∧ x < W7.heap.size ∧ x ≠ gb ∧ x ≠ bc ∧ x ≠ b1) (fun x hx => ⟨hx.1.1, hx.lt, hx.1.2.1, hx.1.2.2.1, hx.1.2.2.2⟩))
     have hfl : (F.app (.cons k t x .nil) l).len = l.len + 1 := by simp only [F.app, F.len]
     rw [hfl] at hs3
     simp only [hfl]
     clear hR4 hb4 hg4 hl4 hbm h2 hM4 hs5 hR hs2 hfl
     have hSW7 : NBlk W7 bc k t a m c := uH hX
     refine hK.out _ _ hSW7 (fun _ => ?_)
     clear hK K' hS
     have hS := hSW7
     try simp only [List.getElem_toArray, List.getElem_cons_succ, List.getElem_cons_zero, Act.put, List.setIfInBounds_toArray, List.set_cons_zero, List.set_cons_succ]
     refine wpAnyH_ready (rs := [7]) (by kernel_rfl) (by decide) ?_
     refine AllReadyH.cons rfl (fun K' hK => ?_) AllReadyH.nil
     rw [if_pos (by kernel_rfl)]
     refine oper_of_run (v := .pointer (some ⟨b1, 2, none⟩)) (w' := W7) (by clear hK; go_simp) ?_
     refine hK.out _ _ hS (fun _ => ?_)
     clear hK K'
     try simp only [List.getElem_toArray, List.getElem_cons_succ, List.getElem_cons_zero, Act.put, List.setIfInBounds_toArray, List.set_cons_zero, List.set_cons_succ]
     refine wpAnyH_ready (rs := [8]) (by kernel_rfl) (by decide) ?_
     refine AllReadyH.cons rfl (fun K' hK => ?_) AllReadyH.nil
     rw [if_pos (by kernel_rfl)]
     refine oper_skip (run_store_kids W7 _ _ _ _ _ _ _ _ b1 26 i none (a5) 0 0 (l.len + 1) c5 (uH hB) rfl rfl) ?_
     obtain ⟨h2, hM2, hB2, hh⟩ := kid_set (uH hP) (uH hM) (uH hB) (by omega) a5 (l.len + 1) c5
     have hzz : (W7.setCell ⟨b1, 2, none⟩ (.slice a5 (l.len + 1) c5)).heap.size = W7.heap.size := by simp
     obtain ⟨W8, hq_W8⟩ : ∃ x, W7.setCell ⟨b1, 2, none⟩ (.slice a5 (l.len + 1) c5) = x := ⟨_, rfl⟩
     rw [hq_W8] at h2 hM2 hB2 hh hzz
     replace hzz := And.intro (Nat.le_of_eq hzz) (Nat.le_of_eq hzz.symm)
     replace hN := zH ((uH hN).same (hh _ (by omega)))
     replace hX := zH ((uH hX).same (hh _ (by omega)))
     replace hs3 := zH ((uH hs3).keep (w' := W8) (fun x hx => hh x (by have e1 := hx.1; omega)))
     replace hB := zH hB2
     replace hM := zH hM2
     replace hP := zH h2
     clear hB2 hM2 h2 hh
     rw [hq_W8]
     clear hq_W8
     have hSW8 : NBlk W8 bc k t a m c := uH hX
     refine hK.out _ _ hSW8 (fun _ => ?_)
     clear hK K' hS
     try simp only [List.getElem_toArray, List.getElem_cons_succ, List.getElem_cons_zero, Act.put, List.setIfInBounds_toArray, List.set_cons_zero, List.set_cons_succ]
     refine wpAnyH_done (by kernel_rfl) ?_ _
     go_wp2_with fail
     refine (paLeave_any (uH hP) (by omega)).mono ?_
     rintro e W9 ⟨rfl, h2, hm⟩
     replace hN := zH ((uH hN).mop (uH hP) hm)
     replace hX := zH ((uH hX).mop (uH hP) hm)
     replace hB := zH ((uH hB).mop (uH hP) hm)
     replace hs3 := zH ((uH hs3).mop (uH hP) hm)
     have hzz := hm.size
     replace hM := zH ((uH hM).trans hm)
     replace hP := zH h2
     clear hm h2
     obtain ⟨p0_hB, p1_hB, p2_hB⟩ := (uH hB).box
     have f0_hB := (uH hB).frozen 0
     have f1_hB := (uH hB).frozen 1
     have f2_hB := (uH hB).frozen 2
     obtain ⟨p0_hN, p1_hN, p2_hN⟩ := (uH hN).box
     have f0_hN := (uH hN).frozen 0
     have f1_hN := (uH hN).frozen 1
     have f2_hN := (uH hN).frozen 2
     have hF := zH (res_finP (P := P) (k := 26) (t := i) (a := a5) (m := l.len + 1) (c := c5) (w := w) (gb := gb) (by omega) (uH hN) ((uH hs3).mono (fun x hx => ⟨hx.1.1, hx.1.2.2.1⟩)) (uH hP) (uH hM))
     go_wp2
     obtain ⟨q1, q2, q3, q4⟩ := uH hF
     obtain ⟨u0, u1, u2⟩ := q1.box
     refine bodyPost_ret (v := .agg #[.int .i64 26, .int .i64 i, .slice a5 (l.len + 1) c5]) (by simp [results, Tryz.results163, go_sem, u0, u1, u2]) rfl ?_
     exact ⟨_, _, _, rfl, q2, q3, q4⟩
end Go.Proofs.YtiknnobgoamgcaaGreatDoor
/-
  What the functions of an expression answer, by whatever number of steps.
-/
namespace Go.Proofs.YtiknnobgoamgcaaGreatDoor
open Go.RowKit Go.Lib Go.Sort
set_option linter.unusedSimpArgs false
set_option linter.unusedVariables false
theorem llsA_len (L : List Tk) : ∀ (f : Nat) (l : F) (i d : Nat) (l' : F) (j : Nat), llsA L f l i d = .ok l' j → l'.len ≤ l.len + f
 | 0, l, i, d, l', j, h => by unfold llsA at h; cases h
 | f + 1, l, i, d, l', j, h => by
  unfold llsA at h
  split at h
  ·
   cases hr : absA L f 0 (i + 1) d with
   | out => rw [hr] at h; cases h
   | bad j => rw [hr] at h; cases h
   | ok x k =>
    rw [hr] at h
    have := llsA_len L f _ _ _ _ _ h
    rw [snoc, F.len_app] at this
    simp only [one, F.len] at this
    omega
  ·
   unfold wantA at h
   split at h
   ·
    injection h with h1 h2
    subst h1
    omega
   ·
    cases h
theorem lstA_len (L : List Tk) (f i d : Nat) (l : F) (j : Nat) (h : lstA L f i d = .ok l j) : l.len ≤ f + 1 := by
 cases f with
 | zero => unfold lstA at h; cases h
 | succ f =>
  unfold lstA at h
  split at h
  ·
   injection h with h1 h2
   subst h1
   simp [F.len]
  ·
   cases hr : absA L f 0 i d with
   | out => rw [hr] at h; cases h
   | bad j => rw [hr] at h; cases h
   | ok x k =>
    rw [hr] at h
    have := llsA_len L f _ _ _ _ _ h
    simp only [one, F.len] at this
    omega
theorem exA_all (g : Nat) (tv : Value) (L : List Tk) : ∀ f, f ≤ 900000 → ExA g tv L f := by
 intro f
 induction f using Nat.strongRecOn with
 | ind f ih =>
  intro hf
  cases f with
  | zero =>
   exact ⟨fun low _ w i d _ _ hne => absurd (by unfold absA; rfl) hne, fun w i d _ _ hne => absurd (by unfold unrA; rfl) hne, fun w i d _ _ hne => absurd (by unfold prmA; rfl) hne,
    fun P k t a m c x w i d _ _ _ _ hne => absurd (by unfold calA; rfl) hne, fun w i d _ _ hne => absurd (by unfold lstA; rfl) hne, fun w i d _ _ hne => absurd (by unfold opdA; rfl) hne, fun w i d _ _ hne => absurd (by unfold parA; rfl) hne⟩
  | succ f =>
   have HA : ∀ f', f' ≤ f → ExA g tv L f' := fun f' h => ih f' (by omega) (by omega)
   have H := HA f (Nat.le_refl _)
   exact ⟨fun low hl w i d h hd hne => paAbove_step h HA low hl hd hne, fun w i d h hd hne => paUnary_step h H hd hne, fun w i d h hd hne => paPrimary_step h HA hd hne,
    fun P k t a m c x w i d h hd hPn hx hne => paCall_step h P k t a m c x H hd (by omega) hPn hx (fun l j e => by have := lstA_len L f (i + 1) (d + 1) l j e; omega) hne,
    fun w i d h hd hne => paList_step h HA hd (by omega) hne, fun w i d h hd hne => paOperand_step h H hd hne, fun w i d h hd hne => paParen_step h H hd hne⟩
end Go.Proofs.YtiknnobgoamgcaaGreatDoor
/-
  A region that draws its order: a load may be taken first where only late operations write its cell (those that wait for it, if by others); and an invariant of whatever has come up. No program.
-/
namespace Go.Proofs.YtiknnobgoamgcaaGreatDoor
section
variable {P : Program} {ops : Array Oper} {Q : Exit → Act → World → Prop} {md : Region.Mode} {S : World → Prop} {D : Nat → Bool}
/-- Whatever has come up has come up behind all that it waits for. -/
def Closed (md : Region.Mode) (ops : Array Oper) (listed : Array Bool) : Prop :=
 ∀ j o, ops[j]? = some o → listed.getD j false = true → ∀ e ∈ o.after, Region.binds md e = true → listed.getD e.on false = true
theorem closed_set {listed : Array Bool} {i : Nat} (hc : Closed md ops listed) (hi : i ∈ Region.ready md ops listed) : Closed md ops (listed.setIfInBounds i true) := by
 obtain ⟨_, o, ho, hall⟩ := mem_ready.1 hi
 intro j oj hj hl e he hb
 by_cases hij : i = j
 ·
  subst hij
  rw [ho] at hj
  cases hj
  exact getD_set_true (hall e he hb)
 ·
  rw [getD_set_ne false hij] at hl
  exact getD_set_true (hc j oj hj hl e he hb)
theorem closed_none (n : Nat) : Closed md ops (Array.replicate n false) := by
 intro j o _ hl
 exfalso
 simp only [Array.getD_eq_getD_getElem?] at hl
 rcases Nat.lt_or_ge j n with h | h
 ·
  simp [h] at hl
 ·
  rw [Array.getElem?_eq_none (by simpa using h)] at hl
  cases hl
/-- Whatever order is picked from here on, and S holds behind every operation that is carried out and is no late one. -/
def wpAnyD (P : Program) (md : Region.Mode) (ops : Array Oper) (Q : Exit → Act → World → Prop) (S : World → Prop) (D : Nat → Bool) : Nat → Array Bool → Act → World → Prop
 | 0, listed, a, w => Region.ready md ops listed = [] ∧ Q .normal a w
 | fuel + 1, listed, a, w =>
  (Region.ready md ops listed = [] → Q .normal a w) ∧
  ∀ i ∈ Region.ready md ops listed, wpOp P ops Q i (fun a' w' => (D i = false → S w') ∧ wpAnyD P md ops Q S D fuel (listed.setIfInBounds i true) a' w') a w
theorem wpAny_of_D : ∀ (fuel : Nat) (listed : Array Bool) (a : Act) (w : World), wpAnyD P md ops Q S D fuel listed a w → wpAny P md ops Q fuel listed a w
 | 0, _, _, _, h => h
 | fuel + 1, _, _, _, h => ⟨h.1, fun i hi => wpOp_mono (fun a' w' h' => wpAny_of_D fuel _ a' w' h'.2) (h.2 i hi)⟩
theorem wpAnyD_first {i : Nat} {oi : Oper} {v : Value} (hi : ops[i]? = some oi) (hsel : ∀ (j : Nat) (o : Oper) cs b, ops[j]? = some o → o.op ≠ .select cs b)
  (hQ : ∀ c a w, Q (.panic c) (a.put oi.dst v) w → Q (.panic c) a w)
  (hD : ∀ l, Closed md ops l → l.getD i true = false → ∀ j ∈ Region.ready md ops l, j ≠ i → D j = false) (hDi : D i = false) :
  ∀ (fuel : Nat) (listed : Array Bool) (a : Act) (w : World), Closed md ops listed →
   (∀ j oj, ops[j]? = some oj → j ≠ i → listed.getD j true = false → (∀ e ∈ oj.after, Region.binds md e = true → e.on ≠ i) → oi.apart ops oj = true) →
   i ∈ Region.ready md ops listed → YieldsIf P ops S oi v a → S w →
   wpAnyD P md ops Q S D fuel (listed.setIfInBounds i true) (a.put oi.dst v) w → wpAnyD P md ops Q S D (fuel + 1) listed a w := by
 intro fuel
 induction fuel with
 | zero =>
  intro listed a w _ _ hr hy hS H
  refine ⟨fun h => (by rw [h] at hr; cases hr), fun j hj => ?_⟩
  by_cases hji : j = i
  ·
   subst hji; exact hy.wpOp hi hS ⟨fun _ => hS, H⟩
  ·
   have := ready_mono hj hji
   rw [H.1] at this
   cases this
 | succ fuel ih =>
  intro listed a w hcl hfree hr hy hS H
  refine ⟨fun h => (by rw [h] at hr; cases hr), fun j hj => ?_⟩
  by_cases hji : j = i
  ·
   subst hji; exact hy.wpOp hi hS ⟨fun _ => hS, H⟩
  ·
   have hDj := hD listed hcl (mem_ready.1 hr).1 j hj hji
   have h1 := H.2 j (ready_mono hj hji)
   obtain ⟨hjun, oj, hoj, hall⟩ := mem_ready.1 hj
   have hnot : ∀ e ∈ oj.after, Region.binds md e = true → e.on ≠ i := fun e he hb heq => by
    have h1 := hall e he hb
    have h0 := (mem_ready.1 hr).1
    rw [heq] at h1
    rcases Nat.lt_or_ge i listed.size with h' | h'
    ·
     simp [h'] at h0 h1; rw [h0] at h1; cases h1
    ·
     simp [Array.getElem?_eq_none h'] at h1
   have h2 := wpOp_putIf hoj (hfree j oj hoj hji hjun hnot) (fun cs b => hsel i oi cs b hi) (fun cs b => hsel j oj cs b hoj) hQ hy h1
   have hfree' : ∀ k ok, ops[k]? = some ok → k ≠ i → (listed.setIfInBounds j true).getD k true = false →
     (∀ e ∈ ok.after, Region.binds md e = true → e.on ≠ i) → oi.apart ops ok = true := fun k ok hk hki hun hno => by
    refine hfree k ok hk hki ?_ hno
    by_cases hjk : j = k
    ·
     subst hjk; exact hjun
    ·
     rw [getD_set_ne true hjk] at hun; exact hun
   refine wpOp_mono (fun a' w' h3 => ⟨fun _ => h3.2.1 hDj, ih (listed.setIfInBounds j true) a' w' (closed_set hcl hj) hfree' (ready_mono hr (Ne.symm hji)) h3.1 (h3.2.1 hDj) ?_⟩) h2
   rw [Array.setIfInBounds_comm _ _ hji]
   exact h3.2.2
/-- All that waits for number i, if by others, as far as n steps go. -/
def behind (md : Region.Mode) (ops : Array Oper) (i : Nat) : Nat → Nat → Bool
 | 0, _ => false
 | n + 1, j => match ops[j]? with
  | some o => o.after.any fun e => Region.binds md e && (e.on == i || behind md ops i n e.on)
  | none => false
theorem behind_listed {l : Array Bool} (hc : Closed md ops l) {i : Nat} : ∀ (n j : Nat), behind md ops i n j = true → l.getD j false = true → l.getD i false = true := by
 intro n
 induction n with
 | zero => intro j h; cases h
 | succ n ih =>
  intro j h hl
  rw [behind] at h
  split at h
  ·
   rename_i o ho
   rw [Array.any_eq_true] at h
   obtain ⟨k, hk, he⟩ := h
   rw [Bool.and_eq_true, Bool.or_eq_true] at he
   have hm := hc j o ho hl o.after[k] (Array.getElem_mem hk) he.1
   rcases he.2 with he | he
   ·
    rw [beq_iff_eq] at he
    rw [he] at hm
    exact hm
   ·
    exact ih _ he hm
  ·
   cases h
/-- No late operation may come up before number i: all of them wait for it. -/
theorem late_of {i n : Nat} (h : ∀ j, D j = true → behind md ops i n j = true) : ∀ l, Closed md ops l → l.getD i true = false → ∀ j ∈ Region.ready md ops l, j ≠ i → D j = false := by
 intro l hc hl j hj _
 cases hd : D j with
 | false => rfl
 | true =>
  exfalso
  have hb := h j hd
  obtain ⟨_, o, ho, hall⟩ := mem_ready.1 hj
  have hcl := closed_set hc hj
  cases n with
  | zero => cases hb
  | succ n =>
   rw [behind, ho] at hb
   dsimp only at hb
   rw [Array.any_eq_true] at hb
   obtain ⟨k, hk, he⟩ := hb
   rw [Bool.and_eq_true, Bool.or_eq_true] at he
   have hm := hall o.after[k] (Array.getElem_mem hk) he.1
   have hli : l.getD i false = true := by
    rcases he.2 with he | he
    ·
     rw [beq_iff_eq] at he
     rw [he] at hm
     exact hm
    ·
     exact behind_listed hc _ _ he hm
   rcases Nat.lt_or_ge i l.size with h' | h'
   ·
    simp [h'] at hl hli; rw [hl] at hli; cases hli
   ·
    simp [Array.getElem?_eq_none h'] at hli
theorem wpAnyD_take {i : Nat} {oi : Oper} {v : Value} {fuel : Nat} {listed : Array Bool} {a : Act} {w : World} (ds : List Nat) (hds : ∀ j, D j = ds.contains j) (hi : ops[i]? = some oi) (hcl : Closed md ops listed)
  (n : Nat) (hlate : (ds.all fun j => behind md ops i n j) = true) (hDi : D i = false)
  (hs : Region.noSelect ops = true) (hf : Region.free md ops listed i = true) (hr : (Region.ready md ops listed).contains i = true)
  (hQ : ∀ c a w, Q (.panic c) (a.put oi.dst v) w → Q (.panic c) a w) (hy : YieldsIf P ops S oi v a) (hS : S w)
  (h : Closed md ops (listed.setIfInBounds i true) → wpAnyD P md ops Q S D fuel (listed.setIfInBounds i true) (a.put oi.dst v) w) : wpAnyD P md ops Q S D (fuel + 1) listed a w :=
 wpAnyD_first hi (Region.noSelect_spec hs) hQ (late_of (fun j hj => List.all_eq_true.1 hlate j (by rw [hds] at hj; simpa using hj))) hDi fuel listed a w hcl (Region.free_spec hi hf) (by simpa using hr) hy hS (h (closed_set hcl (by simpa using hr)))
theorem wpAnyD_all {rs : List Nat} {fuel : Nat} {listed : Array Bool} {a : Act} {w : World} (hr : Region.ready md ops listed = rs) (hne : rs ≠ [])
  (h : ∀ i ∈ rs, wpOp P ops Q i (fun a' w' => (D i = false → S w') ∧ wpAnyD P md ops Q S D fuel (listed.setIfInBounds i true) a' w') a w) : wpAnyD P md ops Q S D (fuel + 1) listed a w :=
 ⟨fun h0 => absurd (hr ▸ h0) hne, hr ▸ h⟩
/-- One alone may come up. -/
theorem wpAnyD_one {i : Nat} {o : Oper} {fuel : Nat} {listed : Array Bool} {a : Act} {w : World} (ho : ops[i]? = some o) (hr : Region.ready md ops listed = [i])
  (h : ∀ K' : Act → World → Prop, (∀ a w, (D i = false → S w) → wpAnyD P md ops Q S D fuel (listed.setIfInBounds i true) a w → K' a w) → if Region.wanted o (yielded ops a.tmps) = true then Oper.wp P o a w K' Q else K' (a.put o.dst undef) w) :
  wpAnyD P md ops Q S D (fuel + 1) listed a w :=
 wpAnyD_all hr (by simp) fun j hj => by
  obtain rfl : j = i := by simpa using hj
  exact wpOp_step ho (fun K' hK => h K' (fun a w hS hW => hK a w ⟨hS, hW⟩))
theorem wpAnyD_done {listed : Array Bool} {a : Act} {w : World} (hr : Region.ready md ops listed = []) (h : Q .normal a w) :
  ∀ fuel, wpAnyD P md ops Q S D fuel listed a w
 | 0 => ⟨hr, h⟩
 | _ + 1 => ⟨fun _ => h, by rw [hr]; simp⟩
/-- The beginning. -/
theorem wp_region_D {id : Nat} {a : Act} {w : World} (S : World → Prop) (D : Nat → Bool) (hm : P.follows .mixedOrders = true)
  (h : wpAnyD P .any ops Q S D ops.size (Array.replicate ops.size false) a w.drew) : (Code.region id ops true).wp P Q a w :=
 wp_region_any hm (wpAny_of_D _ _ _ _ h)
theorem count_set {l : Array Bool} {i : Nat} (h : l.getD i true = false) : (l.setIfInBounds i true).toList.count false + 1 = l.toList.count false := by
 have hi : i < l.size := by
  rcases Nat.lt_or_ge i l.size with h' | h'
  ·
   exact h'
  ·
   simp [Array.getElem?_eq_none h'] at h
 have hv : l.toList[i]'(by simpa using hi) = false := by simpa [hi] using h
 have hm : false ∈ l.toList := by
  have := List.getElem_mem (l := l.toList) (n := i) (by simpa using hi)
  rw [hv] at this
  exact this
 have hp := List.count_pos_iff.2 hm
 rw [Array.toList_setIfInBounds, List.count_set (by simpa using hi), hv, if_pos (by decide), if_neg (by decide)]
 omega
/-- An invariant of whatever has come up. -/
theorem wpAnyD_inv {R : Array Bool → Act → World → Prop} (hS : ∀ l a w, R l a w → S w)
  (hstep : ∀ l a w, Closed md ops l → R l a w → (Region.ready md ops l = [] → Q .normal a w) ∧ ∀ i ∈ Region.ready md ops l, wpOp P ops Q i (fun a' w' => R (l.setIfInBounds i true) a' w') a w) :
  ∀ (fuel : Nat) (l : Array Bool) (a : Act) (w : World), Closed md ops l → l.toList.count false ≤ fuel → R l a w → wpAnyD P md ops Q S D fuel l a w := by
 intro fuel
 induction fuel with
 | zero =>
  intro l a w hc hn hR
  have hr : Region.ready md ops l = [] := by
   cases hr : Region.ready md ops l with
   | nil => rfl
   | cons j js =>
    exfalso
    have hj : j ∈ Region.ready md ops l := by rw [hr]; exact List.mem_cons_self
    have := count_set (mem_ready.1 hj).1
    omega
  exact ⟨hr, (hstep l a w hc hR).1 hr⟩
 | succ fuel ih =>
  intro l a w hc hn hR
  refine ⟨(hstep l a w hc hR).1, fun i hi => wpOp_mono (fun a' w' h' => ⟨fun _ => hS _ _ _ h', ih _ a' w' (closed_set hc hi) ?_ h'⟩) ((hstep l a w hc hR).2 i hi)⟩
  have := count_set (mem_ready.1 hi).1
  omega
end
end Go.Proofs.YtiknnobgoamgcaaGreatDoor
/-
  A region that draws its order: an invariant of whatever has come up. No program.
-/
namespace Go.Proofs.YtiknnobgoamgcaaGreatDoor
section
variable {P : Program} {ops : Array Oper} {Q : Exit → Act → World → Prop} {md : Region.Mode} {S : World → Prop}
/-- An invariant of whatever has come up. -/
theorem wpAnyH_inv {R : Array Bool → Act → World → Prop} (hS : ∀ l a w, R l a w → S w)
  (hstep : ∀ l a w, Closed md ops l → R l a w → (Region.ready md ops l = [] → Q .normal a w) ∧ ∀ i ∈ Region.ready md ops l, wpOp P ops Q i (fun a' w' => R (l.setIfInBounds i true) a' w') a w) :
  ∀ (fuel : Nat) (l : Array Bool) (a : Act) (w : World), Closed md ops l → l.toList.count false ≤ fuel → R l a w → wpAnyH P md ops Q S fuel l a w := by
 intro fuel
 induction fuel with
 | zero =>
  intro l a w hc hn hR
  have hr : Region.ready md ops l = [] := by
   cases hr : Region.ready md ops l with
   | nil => rfl
   | cons j js =>
    exfalso
    have hj : j ∈ Region.ready md ops l := by rw [hr]; exact List.mem_cons_self
    have := count_set (mem_ready.1 hj).1
    omega
  exact ⟨hr, (hstep l a w hc hR).1 hr⟩
 | succ fuel ih =>
  intro l a w hc hn hR
  refine ⟨(hstep l a w hc hR).1, fun i hi => wpOp_mono (fun a' w' h' => ⟨hS _ _ _ h', ih _ a' w' (closed_set hc hi) ?_ h'⟩) ((hstep l a w hc hR).2 i hi)⟩
  have := count_set (mem_ready.1 hi).1
  omega
theorem wpAnyH_act {fuel : Nat} {l : Array Bool} {T : Array Value} {w : World} (h : ∀ T', T' = T → wpAnyH P md ops Q S fuel l ⟨T', []⟩ w) : wpAnyH P md ops Q S fuel l ⟨T, []⟩ w := h T rfl
/-- Whether k waits for i. -/
def waits (md : Region.Mode) (ops : Array Oper) (k i : Nat) : Bool := match ops[k]? with
 | some o => o.after.any fun e => Region.binds md e && e.on == i
 | none => false
theorem ready_waits {l : Array Bool} {k i : Nat} (h : k ∈ Region.ready md ops l) (hw : waits md ops k i = true) : l.getD i false = true := by
 obtain ⟨_, o, ho, hall⟩ := mem_ready.1 h
 rw [waits, ho] at hw
 dsimp only at hw
 rw [Array.any_eq_true] at hw
 obtain ⟨j, hj, he⟩ := hw
 rw [Bool.and_eq_true, beq_iff_eq] at he
 have := hall o.after[j] (Array.getElem_mem hj) he.1
 rw [he.2] at this
 exact this
theorem closed_waits {l : Array Bool} {k i : Nat} (hc : Closed md ops l) (hl : l.getD k false = true) (hw : waits md ops k i = true) : l.getD i false = true := by
 rw [waits] at hw
 split at hw
 ·
  rename_i o ho
  rw [Array.any_eq_true] at hw
  obtain ⟨j, hj, he⟩ := hw
  rw [Bool.and_eq_true, beq_iff_eq] at he
  have := hc k o ho hl o.after[j] (Array.getElem_mem hj) he.1
  rw [he.2] at this
  exact this
 ·
  cases hw
theorem ready_not {l : Array Bool} {i : Nat} (h : i ∈ Region.ready md ops l) : l.getD i false = false := by
 have h0 := (mem_ready.1 h).1
 rcases Nat.lt_or_ge i l.size with h' | h'
 ·
  simp [h'] at h0 ⊢; exact h0
 ·
  simp [Array.getElem?_eq_none h'] at h0
/-- What waits for one that comes up has not come up. -/
theorem ready_behind {l : Array Bool} {k i : Nat} (hc : Closed md ops l) (h : i ∈ Region.ready md ops l) (hw : waits md ops k i = true) : l.getD k false = false := by
 cases hk : l.getD k false with
 | false => rfl
 | true =>
  have h1 := closed_waits hc hk hw
  rw [ready_not h] at h1
  cases h1
theorem ready_lt {l : Array Bool} {i : Nat} (h : i ∈ Region.ready md ops l) : i < ops.size := by
 obtain ⟨_, o, ho, _⟩ := mem_ready.1 h
 exact (Array.getElem?_eq_some_iff.1 ho).1
/-- None may come up: all have. -/
theorem all_listed {l : Array Bool} (hn : l.size = ops.size) (hf : ((List.range ops.size).all fun j => match ops[j]? with | some o => o.after.all fun e => decide (e.on < j) | none => true) = true) (hr : Region.ready md ops l = []) : ∀ k, k < ops.size → l.getD k false = true := by
 intro k
 induction k using Nat.strongRecOn with
 | ind k ih =>
  intro hk
  cases hl : l.getD k false with
  | true => rfl
  | false =>
   exfalso
   have hj : k ∈ Region.ready md ops l := by
    refine mem_ready.2 ⟨?_, ops[k], Array.getElem?_eq_getElem hk, fun e he _ => ?_⟩
    ·
     have h' : k < l.size := by omega
     simp [h'] at hl ⊢
     exact hl
    ·
     have h1 := List.all_eq_true.1 hf k (List.mem_range.2 hk)
     rw [Array.getElem?_eq_getElem hk] at h1
     dsimp only at h1
     have h2 := Array.all_eq_true_iff_forall_mem.1 h1 e he
     have h3 := of_decide_eq_true h2
     exact ih e.on h3 (by omega)
   rw [hr] at hj
   cases hj
def closedB (md : Region.Mode) (ops : Array Oper) (l : Array Bool) : Bool := (List.range ops.size).all fun j => !l.getD j false || match ops[j]? with
 | some o => o.after.all fun e => !Region.binds md e || l.getD e.on false
 | none => true
theorem closed_of {l : Array Bool} (h : closedB md ops l = true) : Closed md ops l := by
 intro j o ho hl e he hb
 have hk := (Array.getElem?_eq_some_iff.1 ho).1
 have h1 := List.all_eq_true.1 h j (List.mem_range.2 hk)
 rw [hl, ho] at h1
 dsimp only at h1
 rw [Bool.not_true, Bool.false_or] at h1
 have h2 := Array.all_eq_true_iff_forall_mem.1 h1 e he
 rw [hb, Bool.not_true, Bool.false_or] at h2
 exact h2
theorem wpAnyD_takeC {D : Nat → Bool} {i : Nat} {oi : Oper} {v : Value} {fuel : Nat} {listed : Array Bool} {a : Act} {w : World} (ds : List Nat) (hds : ∀ j, D j = ds.contains j) (hi : ops[i]? = some oi) (hcl : closedB md ops listed = true)
  (n : Nat) (hlate : (ds.all fun j => behind md ops i n j) = true) (hDi : D i = false)
  (hs : Region.noSelect ops = true) (hf : Region.free md ops listed i = true) (hr : (Region.ready md ops listed).contains i = true)
  (hQ : ∀ c a w, Q (.panic c) (a.put oi.dst v) w → Q (.panic c) a w) (hy : YieldsIf P ops S oi v a) (hS : S w)
  (h : wpAnyD P md ops Q S D fuel (listed.setIfInBounds i true) (a.put oi.dst v) w) : wpAnyD P md ops Q S D (fuel + 1) listed a w :=
 wpAnyD_take ds hds hi (closed_of hcl) n hlate hDi hs hf hr hQ hy hS (fun _ => h)
end
end Go.Proofs.YtiknnobgoamgcaaGreatDoor

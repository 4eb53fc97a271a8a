/-
  1 texts in one.
-/
import Derived.Test.YtiknnobgoamgcaaGreatDoorB03
/-
  The parser: what is told of the functions of an expression; expr, unary, operand, paren.
-/
namespace Go.Proofs.YtiknnobgoamgcaaGreatDoor
open Go.RowKit Go.Lib Go.Sort
set_option linter.unusedSimpArgs false
set_option linter.unusedVariables false
/-- A node came: what is beneath it lies in P. -/
def OkP (P : Nat → Prop) (g : Nat) (tv : Value) (L : List Tk) (n : Nd) (j d : Nat) (w : World) (e : Ending) (w' : World) : Prop :=
 ∃ (a : Option Addr) (m c : Nat), e = .returned (.agg #[.int .i64 n.k, .int .i64 n.t, .slice a m c]) ∧ SlQ P w' a m c n.c ∧ PaW g tv L j d w' ∧ MoP g w w'
def ResP (P : Nat → Prop) (g : Nat) (tv : Value) (L : List Tk) (d : Nat) (w : World) (r : PR Nd) (e : Ending) (w' : World) : Prop := match r with
 | .out => False
 | .bad j => Bad g tv L j w e w'
 | .ok n j => OkP P g tv L n j d w e w'
/-- What the functions of an expression answer, by so many steps. -/
structure ExA (g : Nat) (tv : Value) (L : List Tk) (f : Nat) : Prop where
 abs : ∀ (low : Int), 0 ≤ low → ∀ (w : World) (i d : Nat), PaW g tv L i d w → d ≤ 40 → absA L f low i d ≠ .out → Calls Tryz.prog 124 #[.pointer (some ⟨g, 0, none⟩), .int .i64 low] w fun e w' => ResN w.heap.size g tv L d w (absA L f low i d) e w'
 unr : ∀ (w : World) (i d : Nat), PaW g tv L i d w → d ≤ 40 → unrA L f i d ≠ .out → Calls Tryz.prog 137 #[.pointer (some ⟨g, 0, none⟩)] w fun e w' => ResN w.heap.size g tv L d w (unrA L f i d) e w'
 prm : ∀ (w : World) (i d : Nat), PaW g tv L i d w → d ≤ 40 → prmA L f i d ≠ .out → Calls Tryz.prog 154 #[.pointer (some ⟨g, 0, none⟩)] w fun e w' => ResN w.heap.size g tv L d w (prmA L f i d) e w'
 cal : ∀ (P : Nat → Prop) (k t : Int) (a : Option Addr) (m c : Nat) (x : F) (w : World) (i d : Nat), PaW g tv L i d w → d ≤ 40 → (∀ y, w.heap.size ≤ y → P y) → SlQ P w a m c x → calA L f ⟨k, t, x⟩ i d ≠ .out → Calls Tryz.prog 163 #[.pointer (some ⟨g, 0, none⟩), .agg #[.int .i64 k, .int .i64 t, .slice a m c]] w fun e w' => ResP P g tv L d w (calA L f ⟨k, t, x⟩ i d) e w'
 lst : ∀ (w : World) (i d : Nat), PaW g tv L i d w → d ≤ 40 → lstA L f i d ≠ .out → Calls Tryz.prog 110 #[.pointer (some ⟨g, 0, none⟩), .func (.func 105) #[.pointer (some ⟨g, 0, none⟩)] #[]] w fun e w' => ResF w.heap.size g tv L d w (lstA L f i d) e w'
 opd : ∀ (w : World) (i d : Nat), PaW g tv L i d w → d ≤ 40 → opdA L f i d ≠ .out → Calls Tryz.prog 162 #[.pointer (some ⟨g, 0, none⟩)] w fun e w' => ResN w.heap.size g tv L d w (opdA L f i d) e w'
 par : ∀ (w : World) (i d : Nat), PaW g tv L i d w → d ≤ 40 → parA L f i d ≠ .out → Calls Tryz.prog 164 #[.pointer (some ⟨g, 0, none⟩)] w fun e w' => ResN w.heap.size g tv L d w (parA L f i d) e w'
theorem eqB_self (t : Tk) : eqB t t = true := by simp [eqB, eqT]
theorem kneq {L : List Tk} {i : Nat} {k : Int} {b : Bool} (h : knd L i k = b) : ((tkA L i).k == k) = b := h
set_option maxHeartbeats 4000000 in
set_option maxRecDepth 100000 in
theorem paExpr_any {g : Nat} {tv : Value} {L : List Tk} {i d : Nat} {w : World} (h : PaW g tv L i d w) {f : Nat} (H : ExA g tv L f) (hd : d ≤ 40) (hne : absA L f 0 i d ≠ .out) : Calls Tryz.prog 105 #[.pointer (some ⟨g, 0, none⟩)] w fun e w' => ResN w.heap.size g tv L d w (absA L f 0 i d) e w' := by
 have hH := zH (fun w h => H.abs 0 (Int.le_refl 0) w i d h hd hne)
 clear H
 generalize hr : absA L f 0 i d = r at hne ⊢
 cases r with
 | out => exact absurd rfl hne
 | bad j =>
  have hP := zH (h.alloc (.cells #[.int .i64 0, .int .i64 0, .slice none 0 0] 24 (0, 0))).1
  have hM := zH (h.alloc (.cells #[.int .i64 0, .int .i64 0, .slice none 0 0] 24 (0, 0))).2
  have hN := zH (nblk_new w 0 0 none 0 0)
  obtain ⟨gb, hgb⟩ : ∃ gb, w.heap.size = gb := ⟨_, rfl⟩
  have hz : (w.alloc (.cells #[.int .i64 0, .int .i64 0, .slice none 0 0] 24 (0, 0))).heap.size = gb + 1 := by simp [hgb]
  have hgl : g < gb := by have := h.lt; omega
  rw [hgb] at hN
  obtain ⟨W1, hq_W1⟩ : ∃ W1, w.alloc (.cells #[.int .i64 0, .int .i64 0, .slice none 0 0] 24 (0, 0)) = W1 := ⟨_, rfl⟩
  rw [hq_W1] at hP hM hN hz
  replace hz := And.intro (Nat.le_of_eq hz) (Nat.le_of_eq hz.symm)
  replace h := zH h
  go_enter Tryz.func105, Tryz.ntmps105
  go_wp2_with fail
  clear hq_W1
  have hC := uH hH _ (uH hP)
  rw [hr] at hC
  refine (hC).mono ?_
  rintro e W2 hBad
  obtain rfl := hBad.1
  have hG := zH (hBad.pre (uH hM))
  clear hBad
  go_wp2
  exact ⟨rfl, uH hG⟩
 | ok n j =>
  obtain ⟨nk, nt, nc⟩ := n
  have hP := zH (h.alloc (.cells #[.int .i64 0, .int .i64 0, .slice none 0 0] 24 (0, 0))).1
  have hM := zH (h.alloc (.cells #[.int .i64 0, .int .i64 0, .slice none 0 0] 24 (0, 0))).2
  have hN := zH (nblk_new w 0 0 none 0 0)
  obtain ⟨gb, hgb⟩ : ∃ gb, w.heap.size = gb := ⟨_, rfl⟩
  have hz : (w.alloc (.cells #[.int .i64 0, .int .i64 0, .slice none 0 0] 24 (0, 0))).heap.size = gb + 1 := by simp [hgb]
  have hgl : g < gb := by have := h.lt; omega
  rw [hgb] at hN
  obtain ⟨W1, hq_W1⟩ : ∃ W1, w.alloc (.cells #[.int .i64 0, .int .i64 0, .slice none 0 0] 24 (0, 0)) = W1 := ⟨_, rfl⟩
  rw [hq_W1] at hP hM hN hz
  replace hz := And.intro (Nat.le_of_eq hz) (Nat.le_of_eq hz.symm)
  replace h := zH h
  go_enter Tryz.func105, Tryz.ntmps105
  go_wp2_with fail
  clear hq_W1
  have hC := uH hH _ (uH hP)
  rw [hr] at hC
  refine (hC).mono ?_
  rintro e W2 ⟨a1, m1, c1, rfl, hs, h2, hm⟩
  have hzs := hm.size
  have hs1 := zH (hs.mono (P' := fun x => gb < x ∧ x < W2.heap.size) (fun x hx => by have := (uH hN).lt; have e1 := hx.1; have e2 := hx.lt; exact ⟨by omega, by omega⟩))
  clear hs
  replace hN := zH ((uH hN).mop (uH hP) hm)
  have hzz := hm.size
  replace hM := zH ((uH hM).trans hm)
  replace hP := zH h2
  clear hm h2
  dsimp only at hs1
  obtain ⟨p0_hN, p1_hN, p2_hN⟩ := (uH hN).box
  have f0_hN := (uH hN).frozen 0
  have f1_hN := (uH hN).frozen 1
  have f2_hN := (uH hN).frozen 2
  have hF := zH (res_fin (k := nk) (t := nt) (a := a1) (m := m1) (c := c1) (f := nc) (B := gb) (w := w) (Nat.le_refl gb) (by omega) (uH hN) ((uH hs1).mono (fun x hx => by have e1 := hx.1; exact ⟨by omega, by omega⟩)) (uH hP) (uH hM))
  go_wp2
  obtain ⟨q1, q2, q3, q4⟩ := uH hF
  obtain ⟨u0, u1, u2⟩ := q1.box
  refine bodyPost_ret (v := .agg #[.int .i64 (nk), .int .i64 (nt), .slice (a1) (m1) (c1)]) (by simp [results, Tryz.results105, go_sem, u0, u1, u2]) rfl ?_
  exact ⟨_, _, _, rfl, (by first | exact q2 | (rw [hgb]; exact q2)), q3, q4⟩
set_option maxHeartbeats 4000000 in
set_option maxRecDepth 100000 in
theorem paUnary_step {g : Nat} {tv : Value} {L : List Tk} {i d : Nat} {w : World} (h : PaW g tv L i d w) {f : Nat} (H : ExA g tv L f) (hd : d ≤ 40) (hne : unrA L (f + 1) i d ≠ .out) : Calls Tryz.prog 137 #[.pointer (some ⟨g, 0, none⟩)] w fun e w' => ResN w.heap.size g tv L d w (unrA L (f + 1) i d) e w' := by
 unfold unrA at hne ⊢
 unfold unA at hne ⊢
 cases hk : knd L i 4 with
 | false =>
  simp only [hk, Bool.false_and, Bool.false_eq_true, if_false] at hne ⊢
  have hH := zH (fun w h => H.prm w i d h hd hne)
  clear H
  generalize hr : prmA L f i d = r at hne ⊢
  cases r with
  | out => exact absurd rfl hne
  | bad j =>
   have hP := zH (h.alloc (.cells #[.int .i64 0, .int .i64 0, .slice none 0 0] 24 (0, 0))).1
   have hM := zH (h.alloc (.cells #[.int .i64 0, .int .i64 0, .slice none 0 0] 24 (0, 0))).2
   have hN := zH (nblk_new w 0 0 none 0 0)
   obtain ⟨gb, hgb⟩ : ∃ gb, w.heap.size = gb := ⟨_, rfl⟩
   have hz : (w.alloc (.cells #[.int .i64 0, .int .i64 0, .slice none 0 0] 24 (0, 0))).heap.size = gb + 1 := by simp [hgb]
   have hgl : g < gb := by have := h.lt; omega
   rw [hgb] at hN
   obtain ⟨W1, hq_W1⟩ : ∃ W1, w.alloc (.cells #[.int .i64 0, .int .i64 0, .slice none 0 0] 24 (0, 0)) = W1 := ⟨_, rfl⟩
   rw [hq_W1] at hP hM hN hz
   replace hz := And.intro (Nat.le_of_eq hz) (Nat.le_of_eq hz.symm)
   replace h := zH h
   go_enter Tryz.func137, Tryz.ntmps137
   go_wp2_with fail
   clear hq_W1
   have hK := paIsKind_any (uH hP) 4
   rw [hk] at hK
   refine (hK).mono ?_
   rintro e W2 ⟨rfl, hb⟩
   have h2 := (uH hP).below hb
   have hm := mop_below (g := g) hb
   clear hb
   replace hN := zH ((uH hN).mop (uH hP) hm)
   have hzz := hm.size
   replace hM := zH ((uH hM).trans hm)
   replace hP := zH h2
   clear hm h2
   go_wp2_with fail
   have hC := uH hH _ (uH hP)
   rw [hr] at hC
   refine (hC).mono ?_
   rintro e W3 hBad
   obtain rfl := hBad.1
   have hG := zH (hBad.pre (uH hM))
   clear hBad
   go_wp2
   exact ⟨rfl, uH hG⟩
  | ok n j =>
   obtain ⟨nk, nt, nc⟩ := n
   have hP := zH (h.alloc (.cells #[.int .i64 0, .int .i64 0, .slice none 0 0] 24 (0, 0))).1
   have hM := zH (h.alloc (.cells #[.int .i64 0, .int .i64 0, .slice none 0 0] 24 (0, 0))).2
   have hN := zH (nblk_new w 0 0 none 0 0)
   obtain ⟨gb, hgb⟩ : ∃ gb, w.heap.size = gb := ⟨_, rfl⟩
   have hz : (w.alloc (.cells #[.int .i64 0, .int .i64 0, .slice none 0 0] 24 (0, 0))).heap.size = gb + 1 := by simp [hgb]
   have hgl : g < gb := by have := h.lt; omega
   rw [hgb] at hN
   obtain ⟨W1, hq_W1⟩ : ∃ W1, w.alloc (.cells #[.int .i64 0, .int .i64 0, .slice none 0 0] 24 (0, 0)) = W1 := ⟨_, rfl⟩
   rw [hq_W1] at hP hM hN hz
   replace hz := And.intro (Nat.le_of_eq hz) (Nat.le_of_eq hz.symm)
   replace h := zH h
   go_enter Tryz.func137, Tryz.ntmps137
   go_wp2_with fail
   clear hq_W1
   have hK := paIsKind_any (uH hP) 4
   rw [hk] at hK
   refine (hK).mono ?_
   rintro e W2 ⟨rfl, hb⟩
   have h2 := (uH hP).below hb
   have hm := mop_below (g := g) hb
   clear hb
   replace hN := zH ((uH hN).mop (uH hP) hm)
   have hzz := hm.size
   replace hM := zH ((uH hM).trans hm)
   replace hP := zH h2
   clear hm h2
   go_wp2_with fail
   have hC := uH hH _ (uH hP)
   rw [hr] at hC
   refine (hC).mono ?_
   rintro e W3 ⟨a1, m1, c1, rfl, hs, h2, hm⟩
   have hzs := hm.size
   have hs1 := zH (hs.mono (P' := fun x => gb < x ∧ x < W3.heap.size) (fun x hx => by have := (uH hN).lt; have e1 := hx.1; have e2 := hx.lt; exact ⟨by omega, by omega⟩))
   clear hs
   replace hN := zH ((uH hN).mop (uH hP) hm)
   have hzz := hm.size
   replace hM := zH ((uH hM).trans hm)
   replace hP := zH h2
   clear hm h2
   dsimp only at hs1
   obtain ⟨p0_hN, p1_hN, p2_hN⟩ := (uH hN).box
   have f0_hN := (uH hN).frozen 0
   have f1_hN := (uH hN).frozen 1
   have f2_hN := (uH hN).frozen 2
   have hF := zH (res_fin (k := nk) (t := nt) (a := a1) (m := m1) (c := c1) (f := nc) (B := gb) (w := w) (Nat.le_refl gb) (by omega) (uH hN) ((uH hs1).mono (fun x hx => by have e1 := hx.1; exact ⟨by omega, by omega⟩)) (uH hP) (uH hM))
   go_wp2
   obtain ⟨q1, q2, q3, q4⟩ := uH hF
   obtain ⟨u0, u1, u2⟩ := q1.box
   refine bodyPost_ret (v := .agg #[.int .i64 (nk), .int .i64 (nt), .slice (a1) (m1) (c1)]) (by simp [results, Tryz.results137, go_sem, u0, u1, u2]) rfl ?_
   exact ⟨_, _, _, rfl, (by first | exact q2 | (rw [hgb]; exact q2)), q3, q4⟩
 | true =>
  have hlt := knd_lt hk (by decide)
  have hPk : Hid (∀ W, PaW g tv L i d W → Calls Tryz.prog 87 #[.pointer (some ⟨g, 0, none⟩)] W fun e w' => e = .returned (tkA L i).val ∧ Below W.heap.size W w') := zH (fun W hW => paPeek_any hW)
  simp only [hk, Bool.true_and] at hne ⊢
  obtain ⟨tt, htt⟩ : ∃ t, tkA L i = t := ⟨_, rfl⟩
  have hTk := zH htt
  have hTo : Hid True := zH trivial
  simp only [htt] at hne hPk ⊢
  clear htt
  unfold Tk.val at hPk
  cases hun : isUn tt.s with
  | false =>
   simp only [hun, Bool.false_eq_true, if_false] at hne ⊢
   have hH := zH (fun w h => H.prm w i d h hd hne)
   have hfl := run_field_tok1
   clear H
   generalize hr : prmA L f i d = r at hne ⊢
   cases r with
   | out => exact absurd rfl hne
   | bad j =>
    have hP := zH (h.alloc (.cells #[.int .i64 0, .int .i64 0, .slice none 0 0] 24 (0, 0))).1
    have hM := zH (h.alloc (.cells #[.int .i64 0, .int .i64 0, .slice none 0 0] 24 (0, 0))).2
    have hN := zH (nblk_new w 0 0 none 0 0)
    obtain ⟨gb, hgb⟩ : ∃ gb, w.heap.size = gb := ⟨_, rfl⟩
    have hz : (w.alloc (.cells #[.int .i64 0, .int .i64 0, .slice none 0 0] 24 (0, 0))).heap.size = gb + 1 := by simp [hgb]
    have hgl : g < gb := by have := h.lt; omega
    rw [hgb] at hN
    obtain ⟨W1, hq_W1⟩ : ∃ W1, w.alloc (.cells #[.int .i64 0, .int .i64 0, .slice none 0 0] 24 (0, 0)) = W1 := ⟨_, rfl⟩
    rw [hq_W1] at hP hM hN hz
    replace hz := And.intro (Nat.le_of_eq hz) (Nat.le_of_eq hz.symm)
    replace h := zH h
    go_enter Tryz.func137, Tryz.ntmps137
    go_wp2_with fail
    clear hq_W1
    have hK := paIsKind_any (uH hP) 4
    rw [hk] at hK
    refine (hK).mono ?_
    rintro e W2 ⟨rfl, hb⟩
    have h2 := (uH hP).below hb
    have hm := mop_below (g := g) hb
    clear hb
    replace hN := zH ((uH hN).mop (uH hP) hm)
    have hzz := hm.size
    replace hM := zH ((uH hM).trans hm)
    replace hP := zH h2
    clear hm h2
    go_wp2_with fail
    refine (uH hPk _ (uH hP)).mono ?_
    rintro e W3 ⟨rfl, hb⟩
    have h2 := (uH hP).below hb
    have hm := mop_below (g := g) hb
    clear hb
    replace hN := zH ((uH hN).mop (uH hP) hm)
    have hzz := hm.size
    replace hM := zH ((uH hM).trans hm)
    replace hP := zH h2
    clear hm h2
    go_wp2_with fail
    refine (tUnary_any tt.s _).mono ?_
    rintro e W_ ⟨rfl, rfl⟩
    rw [hun]
    go_wp2_with fail
    have hC := uH hH _ (uH hP)
    rw [hr] at hC
    refine (hC).mono ?_
    rintro e W5 hBad
    obtain rfl := hBad.1
    have hG := zH (hBad.pre (uH hM))
    clear hBad
    go_wp2
    exact ⟨rfl, uH hG⟩
   | ok n j =>
    obtain ⟨nk, nt, nc⟩ := n
    have hP := zH (h.alloc (.cells #[.int .i64 0, .int .i64 0, .slice none 0 0] 24 (0, 0))).1
    have hM := zH (h.alloc (.cells #[.int .i64 0, .int .i64 0, .slice none 0 0] 24 (0, 0))).2
    have hN := zH (nblk_new w 0 0 none 0 0)
    obtain ⟨gb, hgb⟩ : ∃ gb, w.heap.size = gb := ⟨_, rfl⟩
    have hz : (w.alloc (.cells #[.int .i64 0, .int .i64 0, .slice none 0 0] 24 (0, 0))).heap.size = gb + 1 := by simp [hgb]
    have hgl : g < gb := by have := h.lt; omega
    rw [hgb] at hN
    obtain ⟨W1, hq_W1⟩ : ∃ W1, w.alloc (.cells #[.int .i64 0, .int .i64 0, .slice none 0 0] 24 (0, 0)) = W1 := ⟨_, rfl⟩
    rw [hq_W1] at hP hM hN hz
    replace hz := And.intro (Nat.le_of_eq hz) (Nat.le_of_eq hz.symm)
    replace h := zH h
    go_enter Tryz.func137, Tryz.ntmps137
    go_wp2_with fail
    clear hq_W1
    have hK := paIsKind_any (uH hP) 4
    rw [hk] at hK
    refine (hK).mono ?_
    rintro e W2 ⟨rfl, hb⟩
    have h2 := (uH hP).below hb
    have hm := mop_below (g := g) hb
    clear hb
    replace hN := zH ((uH hN).mop (uH hP) hm)
    have hzz := hm.size
    replace hM := zH ((uH hM).trans hm)
    replace hP := zH h2
    clear hm h2
    go_wp2_with fail
    refine (uH hPk _ (uH hP)).mono ?_
    rintro e W3 ⟨rfl, hb⟩
    have h2 := (uH hP).below hb
    have hm := mop_below (g := g) hb
    clear hb
    replace hN := zH ((uH hN).mop (uH hP) hm)
    have hzz := hm.size
    replace hM := zH ((uH hM).trans hm)
    replace hP := zH h2
    clear hm h2
    go_wp2_with fail
    refine (tUnary_any tt.s _).mono ?_
    rintro e W_ ⟨rfl, rfl⟩
    rw [hun]
    go_wp2_with fail
    have hC := uH hH _ (uH hP)
    rw [hr] at hC
    refine (hC).mono ?_
    rintro e W5 ⟨a1, m1, c1, rfl, hs, h2, hm⟩
    have hzs := hm.size
    have hs1 := zH (hs.mono (P' := fun x => gb < x ∧ x < W5.heap.size) (fun x hx => by have := (uH hN).lt; have e1 := hx.1; have e2 := hx.lt; exact ⟨by omega, by omega⟩))
    clear hs
    replace hN := zH ((uH hN).mop (uH hP) hm)
    have hzz := hm.size
    replace hM := zH ((uH hM).trans hm)
    replace hP := zH h2
    clear hm h2
    dsimp only at hs1
    obtain ⟨p0_hN, p1_hN, p2_hN⟩ := (uH hN).box
    have f0_hN := (uH hN).frozen 0
    have f1_hN := (uH hN).frozen 1
    have f2_hN := (uH hN).frozen 2
    have hF := zH (res_fin (k := nk) (t := nt) (a := a1) (m := m1) (c := c1) (f := nc) (B := gb) (w := w) (Nat.le_refl gb) (by omega) (uH hN) ((uH hs1).mono (fun x hx => by have e1 := hx.1; exact ⟨by omega, by omega⟩)) (uH hP) (uH hM))
    go_wp2
    obtain ⟨q1, q2, q3, q4⟩ := uH hF
    obtain ⟨u0, u1, u2⟩ := q1.box
    refine bodyPost_ret (v := .agg #[.int .i64 (nk), .int .i64 (nt), .slice (a1) (m1) (c1)]) (by simp [results, Tryz.results137, go_sem, u0, u1, u2]) rfl ?_
    exact ⟨_, _, _, rfl, (by first | exact q2 | (rw [hgb]; exact q2)), q3, q4⟩
  | true =>
   simp only [hun, if_true] at hne ⊢
   by_cases hd40 : d = 40
   ·
    subst hd40
    simp only [if_true] at hne ⊢
    clear H
    have hP := zH (h.alloc (.cells #[.int .i64 0, .int .i64 0, .slice none 0 0] 24 (0, 0))).1
    have hM := zH (h.alloc (.cells #[.int .i64 0, .int .i64 0, .slice none 0 0] 24 (0, 0))).2
    have hN := zH (nblk_new w 0 0 none 0 0)
    obtain ⟨gb, hgb⟩ : ∃ gb, w.heap.size = gb := ⟨_, rfl⟩
    have hz : (w.alloc (.cells #[.int .i64 0, .int .i64 0, .slice none 0 0] 24 (0, 0))).heap.size = gb + 1 := by simp [hgb]
    have hgl : g < gb := by have := h.lt; omega
    rw [hgb] at hN
    obtain ⟨W1, hq_W1⟩ : ∃ W1, w.alloc (.cells #[.int .i64 0, .int .i64 0, .slice none 0 0] 24 (0, 0)) = W1 := ⟨_, rfl⟩
    rw [hq_W1] at hP hM hN hz
    replace hz := And.intro (Nat.le_of_eq hz) (Nat.le_of_eq hz.symm)
    replace h := zH h
    have hfl := run_field_tok1
    go_enter Tryz.func137, Tryz.ntmps137
    go_wp2_with fail
    clear hq_W1
    have hK := paIsKind_any (uH hP) 4
    rw [hk] at hK
    refine (hK).mono ?_
    rintro e W2 ⟨rfl, hb⟩
    have h2 := (uH hP).below hb
    have hm := mop_below (g := g) hb
    clear hb
    replace hN := zH ((uH hN).mop (uH hP) hm)
    have hzz := hm.size
    replace hM := zH ((uH hM).trans hm)
    replace hP := zH h2
    clear hm h2
    go_wp2_with fail
    refine (uH hPk _ (uH hP)).mono ?_
    rintro e W3 ⟨rfl, hb⟩
    have h2 := (uH hP).below hb
    have hm := mop_below (g := g) hb
    clear hb
    replace hN := zH ((uH hN).mop (uH hP) hm)
    have hzz := hm.size
    replace hM := zH ((uH hM).trans hm)
    replace hP := zH h2
    clear hm h2
    go_wp2_with fail
    refine (tUnary_any tt.s _).mono ?_
    rintro e W_ ⟨rfl, rfl⟩
    rw [hun]
    go_wp2_with fail
    refine (uH hPk _ (uH hP)).mono ?_
    rintro e W5 ⟨rfl, hb⟩
    have h2 := (uH hP).below hb
    have hm := mop_below (g := g) hb
    clear hb
    replace hN := zH ((uH hN).mop (uH hP) hm)
    have hzz := hm.size
    replace hM := zH ((uH hM).trans hm)
    replace hP := zH h2
    clear hm h2
    go_wp2_with fail
    have hto := uH hTo
    have hO := paOpen_deep (uH hP) tt
    unfold Tk.val at hO
    refine (hO).mono ?_
    rintro e W6 hBad
    obtain rfl := hBad.1
    have hG := zH (hBad.pre (uH hM))
    clear hBad
    go_wp2
    exact ⟨rfl, uH hG⟩
   ·
    simp only [hd40, if_false] at hne ⊢
    have hne1 : unrA L f (i + 1) (d + 1) ≠ .out := fun e => hne (by rw [e]; rfl)
    have hH := zH (fun w h => H.unr w (i + 1) (d + 1) h (by omega) hne1)
    clear H hne
    cases hr : unrA L f (i + 1) (d + 1) with
    | out => exact absurd hr hne1
    | bad j =>
     simp only [PR.bind]
     have hP := zH (h.alloc (.cells #[.int .i64 0, .int .i64 0, .slice none 0 0] 24 (0, 0))).1
     have hM := zH (h.alloc (.cells #[.int .i64 0, .int .i64 0, .slice none 0 0] 24 (0, 0))).2
     have hN := zH (nblk_new w 0 0 none 0 0)
     obtain ⟨gb, hgb⟩ : ∃ gb, w.heap.size = gb := ⟨_, rfl⟩
     have hz : (w.alloc (.cells #[.int .i64 0, .int .i64 0, .slice none 0 0] 24 (0, 0))).heap.size = gb + 1 := by simp [hgb]
     have hgl : g < gb := by have := h.lt; omega
     rw [hgb] at hN
     obtain ⟨W1, hq_W1⟩ : ∃ W1, w.alloc (.cells #[.int .i64 0, .int .i64 0, .slice none 0 0] 24 (0, 0)) = W1 := ⟨_, rfl⟩
     rw [hq_W1] at hP hM hN hz
     replace hz := And.intro (Nat.le_of_eq hz) (Nat.le_of_eq hz.symm)
     replace h := zH h
     have hfl := run_field_tok1
     go_enter Tryz.func137, Tryz.ntmps137
     go_wp2_with fail
     clear hq_W1
     have hK := paIsKind_any (uH hP) 4
     rw [hk] at hK
     refine (hK).mono ?_
     rintro e W2 ⟨rfl, hb⟩
     have h2 := (uH hP).below hb
     have hm := mop_below (g := g) hb
     clear hb
     replace hN := zH ((uH hN).mop (uH hP) hm)
     have hzz := hm.size
     replace hM := zH ((uH hM).trans hm)
     replace hP := zH h2
     clear hm h2
     go_wp2_with fail
     refine (uH hPk _ (uH hP)).mono ?_
     rintro e W3 ⟨rfl, hb⟩
     have h2 := (uH hP).below hb
     have hm := mop_below (g := g) hb
     clear hb
     replace hN := zH ((uH hN).mop (uH hP) hm)
     have hzz := hm.size
     replace hM := zH ((uH hM).trans hm)
     replace hP := zH h2
     clear hm h2
     go_wp2_with fail
     refine (tUnary_any tt.s _).mono ?_
     rintro e W_ ⟨rfl, rfl⟩
     rw [hun]
     go_wp2_with fail
     refine (uH hPk _ (uH hP)).mono ?_
     rintro e W5 ⟨rfl, hb⟩
     have h2 := (uH hP).below hb
     have hm := mop_below (g := g) hb
     clear hb
     replace hN := zH ((uH hN).mop (uH hP) hm)
     have hzz := hm.size
     replace hM := zH ((uH hM).trans hm)
     replace hP := zH h2
     clear hm h2
     go_wp2_with fail
     have hto := uH hTo
     have hO := paOpen_yes (uH hP) (by omega) tt (by rw [uH hTk]; exact eqB_self tt) hlt
     unfold Tk.val at hO
     refine (hO).mono ?_
     rintro e W6 ⟨rfl, h2, hm⟩
     replace hN := zH ((uH hN).mop (uH hP) hm)
     have hzz := hm.size
     replace hM := zH ((uH hM).trans hm)
     replace hP := zH h2
     clear hm h2
     obtain ⟨b1, hq_b1⟩ : ∃ x, W6.heap.size = x := ⟨_, rfl⟩
     have hB := zH (nblk_new W6 23 i none 0 0)
     have hm := mop_below (g := g) (below_alloc W6 (.cells #[.int .i64 23, .int .i64 i, .slice none 0 0] 24 (0, 0)))
     have h2 := (uH hP).below (below_alloc W6 (.cells #[.int .i64 23, .int .i64 i, .slice none 0 0] 24 (0, 0)))
     have hzs : (W6.alloc (.cells #[.int .i64 23, .int .i64 i, .slice none 0 0] 24 (0, 0))).heap.size = b1 + 1 := by simp [hq_b1]
     obtain ⟨W7, hq_W7⟩ : ∃ x, W6.alloc (.cells #[.int .i64 23, .int .i64 i, .slice none 0 0] 24 (0, 0)) = x := ⟨_, rfl⟩
     rw [hq_W7] at hB hm h2 hzs
     replace hzs := And.intro (Nat.le_of_eq hzs) (Nat.le_of_eq hzs.symm)
     rw [hq_b1] at hB
     replace hq_W7 := zH hq_W7
     replace hN := zH ((uH hN).mop (uH hP) hm)
     have hzz := hm.size
     replace hM := zH ((uH hM).trans hm)
     replace hP := zH h2
     clear hm h2
     go_wp2_with fail
     rw [uH hq_W7]
     clear hq_W7
     have hC := uH hH _ (uH hP)
     rw [hr] at hC
     refine (hC).mono ?_
     rintro e W8 hBad
     obtain rfl := hBad.1
     have hG := zH (hBad.pre (uH hM))
     clear hBad
     go_wp2
     exact ⟨rfl, uH hG⟩
    | ok n j =>
     obtain ⟨nk, nt, nc⟩ := n
     simp only [PR.bind, one]
     have hP := zH (h.alloc (.cells #[.int .i64 0, .int .i64 0, .slice none 0 0] 24 (0, 0))).1
     have hM := zH (h.alloc (.cells #[.int .i64 0, .int .i64 0, .slice none 0 0] 24 (0, 0))).2
     have hN := zH (nblk_new w 0 0 none 0 0)
     obtain ⟨gb, hgb⟩ : ∃ gb, w.heap.size = gb := ⟨_, rfl⟩
     have hz : (w.alloc (.cells #[.int .i64 0, .int .i64 0, .slice none 0 0] 24 (0, 0))).heap.size = gb + 1 := by simp [hgb]
     have hgl : g < gb := by have := h.lt; omega
     rw [hgb] at hN
     obtain ⟨W1, hq_W1⟩ : ∃ W1, w.alloc (.cells #[.int .i64 0, .int .i64 0, .slice none 0 0] 24 (0, 0)) = W1 := ⟨_, rfl⟩
     rw [hq_W1] at hP hM hN hz
     replace hz := And.intro (Nat.le_of_eq hz) (Nat.le_of_eq hz.symm)
     replace h := zH h
     have hfl := run_field_tok1
     go_enter Tryz.func137, Tryz.ntmps137
     go_wp2_with fail
     clear hq_W1
     have hK := paIsKind_any (uH hP) 4
     rw [hk] at hK
     refine (hK).mono ?_
     rintro e W2 ⟨rfl, hb⟩
     have h2 := (uH hP).below hb
     have hm := mop_below (g := g) hb
     clear hb
     replace hN := zH ((uH hN).mop (uH hP) hm)
     have hzz := hm.size
     replace hM := zH ((uH hM).trans hm)
     replace hP := zH h2
     clear hm h2
     go_wp2_with fail
     refine (uH hPk _ (uH hP)).mono ?_
     rintro e W3 ⟨rfl, hb⟩
     have h2 := (uH hP).below hb
     have hm := mop_below (g := g) hb
     clear hb
     replace hN := zH ((uH hN).mop (uH hP) hm)
     have hzz := hm.size
     replace hM := zH ((uH hM).trans hm)
     replace hP := zH h2
     clear hm h2
     go_wp2_with fail
     refine (tUnary_any tt.s _).mono ?_
     rintro e W_ ⟨rfl, rfl⟩
     rw [hun]
     go_wp2_with fail
     refine (uH hPk _ (uH hP)).mono ?_
     rintro e W5 ⟨rfl, hb⟩
     have h2 := (uH hP).below hb
     have hm := mop_below (g := g) hb
     clear hb
     replace hN := zH ((uH hN).mop (uH hP) hm)
     have hzz := hm.size
     replace hM := zH ((uH hM).trans hm)
     replace hP := zH h2
     clear hm h2
     go_wp2_with fail
     have hto := uH hTo
     have hO := paOpen_yes (uH hP) (by omega) tt (by rw [uH hTk]; exact eqB_self tt) hlt
     unfold Tk.val at hO
     refine (hO).mono ?_
     rintro e W6 ⟨rfl, h2, hm⟩
     replace hN := zH ((uH hN).mop (uH hP) hm)
     have hzz := hm.size
     replace hM := zH ((uH hM).trans hm)
     replace hP := zH h2
     clear hm h2
     obtain ⟨b1, hq_b1⟩ : ∃ x, W6.heap.size = x := ⟨_, rfl⟩
     have hB := zH (nblk_new W6 23 i none 0 0)
     have hm := mop_below (g := g) (below_alloc W6 (.cells #[.int .i64 23, .int .i64 i, .slice none 0 0] 24 (0, 0)))
     have h2 := (uH hP).below (below_alloc W6 (.cells #[.int .i64 23, .int .i64 i, .slice none 0 0] 24 (0, 0)))
     have hzs : (W6.alloc (.cells #[.int .i64 23, .int .i64 i, .slice none 0 0] 24 (0, 0))).heap.size = b1 + 1 := by simp [hq_b1]
     obtain ⟨W7, hq_W7⟩ : ∃ x, W6.alloc (.cells #[.int .i64 23, .int .i64 i, .slice none 0 0] 24 (0, 0)) = x := ⟨_, rfl⟩
     rw [hq_W7] at hB hm h2 hzs
     replace hzs := And.intro (Nat.le_of_eq hzs) (Nat.le_of_eq hzs.symm)
     rw [hq_b1] at hB
     replace hq_W7 := zH hq_W7
     replace hN := zH ((uH hN).mop (uH hP) hm)
     have hzz := hm.size
     replace hM := zH ((uH hM).trans hm)
     replace hP := zH h2
     clear hm h2
     go_wp2_with fail
     rw [uH hq_W7]
     clear hq_W7
     have hC := uH hH _ (uH hP)
     rw [hr] at hC
     refine (hC).mono ?_
     rintro e W8 ⟨a2, m2, c2, rfl, hs, h2, hm⟩
     have hzs := hm.size
     have hs2 := zH (hs.mono (P' := fun x => gb < x ∧ x < W8.heap.size ∧ x ≠ b1) (fun x hx => by have := (uH hN).lt; have := (uH hB).lt; have e1 := hx.1; have e2 := hx.lt; exact ⟨by omega, by omega, by omega⟩))
     clear hs
     replace hN := zH ((uH hN).mop (uH hP) hm)
     replace hB := zH ((uH hB).mop (uH hP) hm)
     have hzz := hm.size
     replace hM := zH ((uH hM).trans hm)
     replace hP := zH h2
     clear hm h2
     dsimp only at hs2
     obtain ⟨b3, hq_b3⟩ : ∃ x, W8.heap.size = x := ⟨_, rfl⟩
     have hzz : (W8.alloc (.cells #[.int .i64 nk, .int .i64 nt, .slice a2 m2 c2] 24 (0, 0))).heap.size = b3 + 1 := by simp [hq_b3]
     have hm := mop_below (g := g) (below_alloc W8 (.cells #[.int .i64 nk, .int .i64 nt, .slice a2 m2 c2] 24 (0, 0)))
     have h2 := (uH hP).below (below_alloc W8 (.cells #[.int .i64 nk, .int .i64 nt, .slice a2 m2 c2] 24 (0, 0)))
     have hs3 := lit1_sl (P := fun x => gb < x ∧ x < b3 + 1 ∧ x ≠ b1) W8 nk nt a2 m2 c2 nc ((uH hs2).mono (fun x hx => by have e1 := hx.1; have e2 := hx.lt; exact ⟨by omega, by omega, by omega⟩)) ⟨by omega, by omega, (by have := (uH hN).lt; have := (uH hB).lt; omega)⟩
     rw [hq_b3] at hs3
     obtain ⟨W9, hq_W9⟩ : ∃ x, W8.alloc (.cells #[.int .i64 nk, .int .i64 nt, .slice a2 m2 c2] 24 (0, 0)) = x := ⟨_, rfl⟩
     rw [hq_W9] at hs3 hm h2 hzz
     rw [← hzz] at hs3
     replace hzz := And.intro (Nat.le_of_eq hzz) (Nat.le_of_eq hzz.symm)
     replace hs3 := zH hs3
     replace hN := zH ((uH hN).mop (uH hP) hm)
     replace hB := zH ((uH hB).mop (uH hP) hm)
     have hzz := hm.size
     replace hM := zH ((uH hM).trans hm)
     replace hP := zH h2
     clear hm h2
     obtain ⟨p0_hB, p1_hB, p2_hB⟩ := (uH hB).box
     have f0_hB := (uH hB).frozen 0
     have f1_hB := (uH hB).frozen 1
     have f2_hB := (uH hB).frozen 2
     obtain ⟨h2, hM2, hB2, hh⟩ := kid_set (uH hP) (uH hM) (uH hB) (by omega) (some ⟨b3, 0, none⟩) 1 1
     have hzz : (W9.setCell ⟨b1, 2, none⟩ (.slice (some ⟨b3, 0, none⟩) 1 1)).heap.size = W9.heap.size := by simp
     obtain ⟨W10, hq_W10⟩ : ∃ x, W9.setCell ⟨b1, 2, none⟩ (.slice (some ⟨b3, 0, none⟩) 1 1) = x := ⟨_, rfl⟩
     rw [hq_W10] at h2 hM2 hB2 hh hzz
     replace hzz := And.intro (Nat.le_of_eq hzz) (Nat.le_of_eq hzz.symm)
     replace hN := zH ((uH hN).same (hh _ (by omega)))
     replace hs3 := zH ((uH hs3).keep (w' := W10) (fun x hx => hh x (by have e1 := hx.1; omega)))
     replace hB := zH hB2
     replace hM := zH hM2
     replace hP := zH h2
     clear hB2 hM2 h2 hh
     go_wp2_with fail
     clear hq_W9 hq_W10
     refine (paLeave_any (uH hP) (by omega)).mono ?_
     rintro e W11 ⟨rfl, h2, hm⟩
     replace hN := zH ((uH hN).mop (uH hP) hm)
     replace hB := zH ((uH hB).mop (uH hP) hm)
     replace hs3 := zH ((uH hs3).mop (uH hP) hm)
     have hzz := hm.size
     replace hM := zH ((uH hM).trans hm)
     replace hP := zH h2
     clear hm h2
     obtain ⟨p0_hB, p1_hB, p2_hB⟩ := (uH hB).box
     have f0_hB := (uH hB).frozen 0
     have f1_hB := (uH hB).frozen 1
     have f2_hB := (uH hB).frozen 2
     obtain ⟨p0_hN, p1_hN, p2_hN⟩ := (uH hN).box
     have f0_hN := (uH hN).frozen 0
     have f1_hN := (uH hN).frozen 1
     have f2_hN := (uH hN).frozen 2
     have hF := zH (res_fin (k := 23) (t := i) (a := some ⟨b3, 0, none⟩) (m := 1) (c := 1) (f := .cons nk nt nc .nil) (B := gb) (w := w) (Nat.le_refl gb) (by omega) (uH hN) ((uH hs3).mono (fun x hx => by have e1 := hx.1; exact ⟨by omega, by omega⟩)) (uH hP) (uH hM))
     go_wp2
     obtain ⟨q1, q2, q3, q4⟩ := uH hF
     obtain ⟨u0, u1, u2⟩ := q1.box
     refine bodyPost_ret (v := .agg #[.int .i64 (23), .int .i64 (i), .slice (some ⟨b3, 0, none⟩) (1) (1)]) (by simp [results, Tryz.results137, go_sem, u0, u1, u2]) rfl ?_
     exact ⟨_, _, _, rfl, (by first | exact q2 | (rw [hgb]; exact q2)), q3, q4⟩
end Go.Proofs.YtiknnobgoamgcaaGreatDoor

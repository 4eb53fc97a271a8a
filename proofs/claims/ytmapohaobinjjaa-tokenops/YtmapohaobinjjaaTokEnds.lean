/-
  The walks of package token: Ends, Space.
-/
import Derived.Test.YtmapohaobinjjaaTokSpace
namespace Go.Proofs.Ytmapohaobinjjaa
open Go.RowKit
set_option linter.unusedSimpArgs false
theorem Box.lt {w : World} {b : Nat} {t : Tk} (h : Box w b t) : b < w.heap.size := World.block_lt_of_cell? w ⟨b, 0, none⟩ h.1
/-- A token's block. -/
abbrev Tk.obj (t : Tk) (fr : Nat × Nat) : Obj := .cells #[.int .i64 t.k, .string t.s, .int .i64 t.p, .int .i64 t.l, .bool t.q] 23 fr
/-- Three tokens laid one behind the other, and what a call leaves of them. -/
theorem box3 (w : World) (p a b : Tk) (f1 f2 f3 : Nat × Nat) (W : World) (hw : Below (((w.alloc (p.obj f1)).alloc (a.obj f2)).alloc (b.obj f3)).heap.size (((w.alloc (p.obj f1)).alloc (a.obj f2)).alloc (b.obj f3)) W) :
    Box W (w.heap.size + 1) a ∧ Box W (w.heap.size + 1 + 1) b ∧ Below w.heap.size w W := by
  have h2 := box_alloc (w.alloc (p.obj f1)) a f2
  have h3 := box_alloc ((w.alloc (p.obj f1)).alloc (a.obj f2)) b f3
  have h2 := h2.below (below_alloc _ (b.obj f3)) h2.lt
  have h2 := h2.below hw h2.lt
  have h3 := h3.below hw h3.lt
  have e1 : (w.alloc (p.obj f1)).heap.size = w.heap.size + 1 := by simp
  have e2 : ((w.alloc (p.obj f1)).alloc (a.obj f2)).heap.size = w.heap.size + 1 + 1 := by simp
  rw [e1] at h2
  rw [e2] at h3
  exact ⟨h2, h3, below3 (below3 (below3 (below_alloc w _) (below_alloc _ _)) (below_alloc _ _)) hw⟩
set_option maxHeartbeats 1000000 in
set_option maxRecDepth 100000 in
theorem tEnds_any (t : Tk) (w : World) :
    Calls Try.prog 14 #[t.val] w fun e w' => e = .returned (.bool (endB t)) ∧ Below w.heap.size w w' := by
  have HO := fun w => toperand_any t w
  have HS := fun w => tsign_any t ⟨#[125]⟩ w
  rw [show (⟨#[125]⟩ : ByteArray).data.toList = [125] from rfl] at HS
  have hx := fun w => box_alloc w t (0, 0)
  by_cases hk : t.k = 5
  · have h0 : operB t = false := by simp [operB, sgn, hk]
    have h1 : sgn t [125] = false := by simp [sgn, hk]
    rw [endB, h0, h1, hk]
    clear h0 h1 HO HS hx
    obtain ⟨k, s, p, l, q⟩ := t
    obtain rfl : k = 5 := hk
    unfold Tk.val
    dsimp only
    go_enter Try.func14, Try.ntmps14
    go_wp2
    all_goals
      go_ret
      refine ⟨ret_bool ?_, below_alloc _ _⟩
      simp_all [eqT, ByteArray.toList_eq]
  · have h0 : endB t = (operB t || sgn t [125]) := by simp [endB, hk]
    rw [h0]
    clear h0
    generalize operB t = x at *
    generalize sgn t [125] = y at *
    obtain ⟨k, s, p, l, q⟩ := t
    unfold Tk.val at *
    dsimp only at *
    have HO := hide HO
    have HS := hide HS
    have hx := hide hx
    cases x with
    | true =>
      go_enter Try.func14, Try.ntmps14
      go_wp2_with fail
      refine (unhide HO _).mono ?_
      rintro e W ⟨rfl, hw⟩
      go_wp2
      go_ret
      exact ⟨rfl, below3 (below_alloc _ _) hw⟩
    | false =>
      go_enter Try.func14, Try.ntmps14
      go_wp2_with fail
      refine (unhide HO _).mono ?_
      rintro e W ⟨rfl, hw⟩
      obtain ⟨c0, c1, c2, c3, c4⟩ := (unhide hx w).below hw (by simp)
      dsimp only at c0 c1 c2 c3 c4
      go_wp2_with fail
      refine (unhide HS _).mono ?_
      rintro e W2 ⟨rfl, hw2⟩
      go_wp2
      go_ret
      exact ⟨rfl, below3 (below3 (below_alloc _ _) hw) hw2⟩
set_option maxHeartbeats 2000000 in
set_option maxRecDepth 100000 in
theorem tSpace_any (p a b : Tk) (w : World) :
    Calls Try.prog 17 #[p.val, a.val, b.val] w fun e w' => e = .returned (.bool (spaceB p a b)) ∧ Below w.heap.size w w' := by
  have HN := hide (fun w => tholdsNext_any p a w)
  have HL := hide (fun w => tholdsLast_any b w)
  have HX := hide (fun w => tsign_any a ⟨#[41]⟩ w)
  have HY := hide (fun w => tsign_any b ⟨#[40]⟩ w)
  have HZ := hide (fun w => tsign_any a ⟨#[123]⟩ w)
  have HU := hide (fun w => tsign_any b ⟨#[125]⟩ w)
  rw [show (⟨#[41]⟩ : ByteArray).data.toList = [41] from rfl] at HX
  rw [show (⟨#[40]⟩ : ByteArray).data.toList = [40] from rfl] at HY
  rw [show (⟨#[123]⟩ : ByteArray).data.toList = [123] from rfl] at HZ
  rw [show (⟨#[125]⟩ : ByteArray).data.toList = [125] from rfl] at HU
  rw [spaceB, callB]
  have hx := hide (fun W hw => box3 w p a b (0, 0) (0, 0) (0, 0) W hw)
  generalize nextB p a = n at *
  generalize lastB b = m at *
  generalize sgn a [41] = x at *
  generalize sgn b [40] = y at *
  generalize sgn a [123] = z at *
  generalize sgn b [125] = u at *
  obtain ⟨k, s, pp, l, q⟩ := a
  obtain ⟨k', s', p', l', q'⟩ := p
  obtain ⟨k'', s'', p'', l'', q''⟩ := b
  unfold Tk.val at *
  dsimp only at *
  cases n with
  | true =>
    go_enter Try.func17, Try.ntmps17
    go_wp2_with fail
    refine (unhide HN _).mono ?_
    rintro e W0 ⟨rfl, hw0⟩
    obtain ⟨hA, hB, hw⟩ := unhide hx _ hw0
    clear hw0
    go_wp2
    go_ret
    exact ⟨rfl, hw⟩
  | false =>
  cases m with
  | true =>
    go_enter Try.func17, Try.ntmps17
    go_wp2_with fail
    refine (unhide HN _).mono ?_
    rintro e W0 ⟨rfl, hw0⟩
    obtain ⟨hA, hB, hw⟩ := unhide hx _ hw0
    clear hw0
    obtain ⟨ca0, ca1, ca2, ca3, ca4⟩ := id hA
    obtain ⟨cb0, cb1, cb2, cb3, cb4⟩ := id hB
    dsimp only at ca0 ca1 ca2 ca3 ca4 cb0 cb1 cb2 cb3 cb4
    have hA := hide hA
    have hB := hide hB
    go_wp2_with fail
    refine (unhide HL _).mono ?_
    rintro e W1 ⟨rfl, hw1⟩
    have hw := below3 hw hw1
    clear hw1
    go_wp2
    go_ret
    exact ⟨rfl, hw⟩
  | false =>
  by_cases hk : k = 1
  · rw [decide_eq_true hk]
    subst hk
    cases y with
    | true =>
      go_enter Try.func17, Try.ntmps17
      go_wp2_with fail
      refine (unhide HN _).mono ?_
      rintro e W0 ⟨rfl, hw0⟩
      obtain ⟨hA, hB, hw⟩ := unhide hx _ hw0
      clear hw0
      obtain ⟨ca0, ca1, ca2, ca3, ca4⟩ := id hA
      obtain ⟨cb0, cb1, cb2, cb3, cb4⟩ := id hB
      dsimp only at ca0 ca1 ca2 ca3 ca4 cb0 cb1 cb2 cb3 cb4
      have hA := hide hA
      have hB := hide hB
      go_wp2_with fail
      refine (unhide HL _).mono ?_
      rintro e W1 ⟨rfl, hw1⟩
      have hA := (unhide hA).below hw1 (unhide hA).lt
      have hB := (unhide hB).below hw1 (unhide hB).lt
      have hw := below3 hw hw1
      clear hw1
      obtain ⟨ca0, ca1, ca2, ca3, ca4⟩ := id hA
      obtain ⟨cb0, cb1, cb2, cb3, cb4⟩ := id hB
      dsimp only at ca0 ca1 ca2 ca3 ca4 cb0 cb1 cb2 cb3 cb4
      have hA := hide hA
      have hB := hide hB
      go_wp2_with fail
      refine (unhide HY _).mono ?_
      rintro e W2 ⟨rfl, hw2⟩
      have hw := below3 hw hw2
      clear hw2
      go_wp2
      go_ret
      exact ⟨rfl, hw⟩
    | false =>
    cases z with
    | false =>
      go_enter Try.func17, Try.ntmps17
      go_wp2_with fail
      refine (unhide HN _).mono ?_
      rintro e W0 ⟨rfl, hw0⟩
      obtain ⟨hA, hB, hw⟩ := unhide hx _ hw0
      clear hw0
      obtain ⟨ca0, ca1, ca2, ca3, ca4⟩ := id hA
      obtain ⟨cb0, cb1, cb2, cb3, cb4⟩ := id hB
      dsimp only at ca0 ca1 ca2 ca3 ca4 cb0 cb1 cb2 cb3 cb4
      have hA := hide hA
      have hB := hide hB
      go_wp2_with fail
      refine (unhide HL _).mono ?_
      rintro e W1 ⟨rfl, hw1⟩
      have hA := (unhide hA).below hw1 (unhide hA).lt
      have hB := (unhide hB).below hw1 (unhide hB).lt
      have hw := below3 hw hw1
      clear hw1
      obtain ⟨ca0, ca1, ca2, ca3, ca4⟩ := id hA
      obtain ⟨cb0, cb1, cb2, cb3, cb4⟩ := id hB
      dsimp only at ca0 ca1 ca2 ca3 ca4 cb0 cb1 cb2 cb3 cb4
      have hA := hide hA
      have hB := hide hB
      go_wp2_with fail
      refine (unhide HY _).mono ?_
      rintro e W2 ⟨rfl, hw2⟩
      have hA := (unhide hA).below hw2 (unhide hA).lt
      have hB := (unhide hB).below hw2 (unhide hB).lt
      have hw := below3 hw hw2
      clear hw2
      obtain ⟨ca0, ca1, ca2, ca3, ca4⟩ := id hA
      obtain ⟨cb0, cb1, cb2, cb3, cb4⟩ := id hB
      dsimp only at ca0 ca1 ca2 ca3 ca4 cb0 cb1 cb2 cb3 cb4
      have hA := hide hA
      have hB := hide hB
      go_wp2_with fail
      refine (unhide HZ _).mono ?_
      rintro e W3 ⟨rfl, hw3⟩
      have hw := below3 hw hw3
      clear hw3
      go_wp2
      go_ret
      exact ⟨rfl, hw⟩
    | true =>
      go_enter Try.func17, Try.ntmps17
      go_wp2_with fail
      refine (unhide HN _).mono ?_
      rintro e W0 ⟨rfl, hw0⟩
      obtain ⟨hA, hB, hw⟩ := unhide hx _ hw0
      clear hw0
      obtain ⟨ca0, ca1, ca2, ca3, ca4⟩ := id hA
      obtain ⟨cb0, cb1, cb2, cb3, cb4⟩ := id hB
      dsimp only at ca0 ca1 ca2 ca3 ca4 cb0 cb1 cb2 cb3 cb4
      have hA := hide hA
      have hB := hide hB
      go_wp2_with fail
      refine (unhide HL _).mono ?_
      rintro e W1 ⟨rfl, hw1⟩
      have hA := (unhide hA).below hw1 (unhide hA).lt
      have hB := (unhide hB).below hw1 (unhide hB).lt
      have hw := below3 hw hw1
      clear hw1
      obtain ⟨ca0, ca1, ca2, ca3, ca4⟩ := id hA
      obtain ⟨cb0, cb1, cb2, cb3, cb4⟩ := id hB
      dsimp only at ca0 ca1 ca2 ca3 ca4 cb0 cb1 cb2 cb3 cb4
      have hA := hide hA
      have hB := hide hB
      go_wp2_with fail
      refine (unhide HY _).mono ?_
      rintro e W2 ⟨rfl, hw2⟩
      have hA := (unhide hA).below hw2 (unhide hA).lt
      have hB := (unhide hB).below hw2 (unhide hB).lt
      have hw := below3 hw hw2
      clear hw2
      obtain ⟨ca0, ca1, ca2, ca3, ca4⟩ := id hA
      obtain ⟨cb0, cb1, cb2, cb3, cb4⟩ := id hB
      dsimp only at ca0 ca1 ca2 ca3 ca4 cb0 cb1 cb2 cb3 cb4
      have hA := hide hA
      have hB := hide hB
      go_wp2_with fail
      refine (unhide HZ _).mono ?_
      rintro e W3 ⟨rfl, hw3⟩
      have hA := (unhide hA).below hw3 (unhide hA).lt
      have hB := (unhide hB).below hw3 (unhide hB).lt
      have hw := below3 hw hw3
      clear hw3
      obtain ⟨ca0, ca1, ca2, ca3, ca4⟩ := id hA
      obtain ⟨cb0, cb1, cb2, cb3, cb4⟩ := id hB
      dsimp only at ca0 ca1 ca2 ca3 ca4 cb0 cb1 cb2 cb3 cb4
      have hA := hide hA
      have hB := hide hB
      go_wp2_with fail
      refine (unhide HU _).mono ?_
      rintro e W4 ⟨rfl, hw4⟩
      have hw := below3 hw hw4
      clear hw4
      go_wp2
      go_ret
      exact ⟨ret_bool (by cases u <;> rfl), hw⟩
  · rw [decide_eq_false hk]
    cases x with
    | true =>
      cases y with
      | true =>
        go_enter Try.func17, Try.ntmps17
        go_wp2_with fail
        refine (unhide HN _).mono ?_
        rintro e W0 ⟨rfl, hw0⟩
        obtain ⟨hA, hB, hw⟩ := unhide hx _ hw0
        clear hw0
        obtain ⟨ca0, ca1, ca2, ca3, ca4⟩ := id hA
        obtain ⟨cb0, cb1, cb2, cb3, cb4⟩ := id hB
        dsimp only at ca0 ca1 ca2 ca3 ca4 cb0 cb1 cb2 cb3 cb4
        have hA := hide hA
        have hB := hide hB
        go_wp2_with fail
        refine (unhide HL _).mono ?_
        rintro e W1 ⟨rfl, hw1⟩
        have hA := (unhide hA).below hw1 (unhide hA).lt
        have hB := (unhide hB).below hw1 (unhide hB).lt
        have hw := below3 hw hw1
        clear hw1
        obtain ⟨ca0, ca1, ca2, ca3, ca4⟩ := id hA
        obtain ⟨cb0, cb1, cb2, cb3, cb4⟩ := id hB
        dsimp only at ca0 ca1 ca2 ca3 ca4 cb0 cb1 cb2 cb3 cb4
        have hA := hide hA
        have hB := hide hB
        go_wp2_with fail
        refine (unhide HX _).mono ?_
        rintro e W2 ⟨rfl, hw2⟩
        have hA := (unhide hA).below hw2 (unhide hA).lt
        have hB := (unhide hB).below hw2 (unhide hB).lt
        have hw := below3 hw hw2
        clear hw2
        obtain ⟨ca0, ca1, ca2, ca3, ca4⟩ := id hA
        obtain ⟨cb0, cb1, cb2, cb3, cb4⟩ := id hB
        dsimp only at ca0 ca1 ca2 ca3 ca4 cb0 cb1 cb2 cb3 cb4
        have hA := hide hA
        have hB := hide hB
        go_wp2_with fail
        refine (unhide HY _).mono ?_
        rintro e W3 ⟨rfl, hw3⟩
        have hw := below3 hw hw3
        clear hw3
        go_wp2
        go_ret
        exact ⟨rfl, hw⟩
      | false =>
      cases z with
      | false =>
        go_enter Try.func17, Try.ntmps17
        go_wp2_with fail
        refine (unhide HN _).mono ?_
        rintro e W0 ⟨rfl, hw0⟩
        obtain ⟨hA, hB, hw⟩ := unhide hx _ hw0
        clear hw0
        obtain ⟨ca0, ca1, ca2, ca3, ca4⟩ := id hA
        obtain ⟨cb0, cb1, cb2, cb3, cb4⟩ := id hB
        dsimp only at ca0 ca1 ca2 ca3 ca4 cb0 cb1 cb2 cb3 cb4
        have hA := hide hA
        have hB := hide hB
        go_wp2_with fail
        refine (unhide HL _).mono ?_
        rintro e W1 ⟨rfl, hw1⟩
        have hA := (unhide hA).below hw1 (unhide hA).lt
        have hB := (unhide hB).below hw1 (unhide hB).lt
        have hw := below3 hw hw1
        clear hw1
        obtain ⟨ca0, ca1, ca2, ca3, ca4⟩ := id hA
        obtain ⟨cb0, cb1, cb2, cb3, cb4⟩ := id hB
        dsimp only at ca0 ca1 ca2 ca3 ca4 cb0 cb1 cb2 cb3 cb4
        have hA := hide hA
        have hB := hide hB
        go_wp2_with fail
        refine (unhide HX _).mono ?_
        rintro e W2 ⟨rfl, hw2⟩
        have hA := (unhide hA).below hw2 (unhide hA).lt
        have hB := (unhide hB).below hw2 (unhide hB).lt
        have hw := below3 hw hw2
        clear hw2
        obtain ⟨ca0, ca1, ca2, ca3, ca4⟩ := id hA
        obtain ⟨cb0, cb1, cb2, cb3, cb4⟩ := id hB
        dsimp only at ca0 ca1 ca2 ca3 ca4 cb0 cb1 cb2 cb3 cb4
        have hA := hide hA
        have hB := hide hB
        go_wp2_with fail
        refine (unhide HY _).mono ?_
        rintro e W3 ⟨rfl, hw3⟩
        have hA := (unhide hA).below hw3 (unhide hA).lt
        have hB := (unhide hB).below hw3 (unhide hB).lt
        have hw := below3 hw hw3
        clear hw3
        obtain ⟨ca0, ca1, ca2, ca3, ca4⟩ := id hA
        obtain ⟨cb0, cb1, cb2, cb3, cb4⟩ := id hB
        dsimp only at ca0 ca1 ca2 ca3 ca4 cb0 cb1 cb2 cb3 cb4
        have hA := hide hA
        have hB := hide hB
        go_wp2_with fail
        refine (unhide HZ _).mono ?_
        rintro e W4 ⟨rfl, hw4⟩
        have hw := below3 hw hw4
        clear hw4
        go_wp2
        go_ret
        exact ⟨rfl, hw⟩
      | true =>
        go_enter Try.func17, Try.ntmps17
        go_wp2_with fail
        refine (unhide HN _).mono ?_
        rintro e W0 ⟨rfl, hw0⟩
        obtain ⟨hA, hB, hw⟩ := unhide hx _ hw0
        clear hw0
        obtain ⟨ca0, ca1, ca2, ca3, ca4⟩ := id hA
        obtain ⟨cb0, cb1, cb2, cb3, cb4⟩ := id hB
        dsimp only at ca0 ca1 ca2 ca3 ca4 cb0 cb1 cb2 cb3 cb4
        have hA := hide hA
        have hB := hide hB
        go_wp2_with fail
        refine (unhide HL _).mono ?_
        rintro e W1 ⟨rfl, hw1⟩
        have hA := (unhide hA).below hw1 (unhide hA).lt
        have hB := (unhide hB).below hw1 (unhide hB).lt
        have hw := below3 hw hw1
        clear hw1
        obtain ⟨ca0, ca1, ca2, ca3, ca4⟩ := id hA
        obtain ⟨cb0, cb1, cb2, cb3, cb4⟩ := id hB
        dsimp only at ca0 ca1 ca2 ca3 ca4 cb0 cb1 cb2 cb3 cb4
        have hA := hide hA
        have hB := hide hB
        go_wp2_with fail
        refine (unhide HX _).mono ?_
        rintro e W2 ⟨rfl, hw2⟩
        have hA := (unhide hA).below hw2 (unhide hA).lt
        have hB := (unhide hB).below hw2 (unhide hB).lt
        have hw := below3 hw hw2
        clear hw2
        obtain ⟨ca0, ca1, ca2, ca3, ca4⟩ := id hA
        obtain ⟨cb0, cb1, cb2, cb3, cb4⟩ := id hB
        dsimp only at ca0 ca1 ca2 ca3 ca4 cb0 cb1 cb2 cb3 cb4
        have hA := hide hA
        have hB := hide hB
        go_wp2_with fail
        refine (unhide HY _).mono ?_
        rintro e W3 ⟨rfl, hw3⟩
        have hA := (unhide hA).below hw3 (unhide hA).lt
        have hB := (unhide hB).below hw3 (unhide hB).lt
        have hw := below3 hw hw3
        clear hw3
        obtain ⟨ca0, ca1, ca2, ca3, ca4⟩ := id hA
        obtain ⟨cb0, cb1, cb2, cb3, cb4⟩ := id hB
        dsimp only at ca0 ca1 ca2 ca3 ca4 cb0 cb1 cb2 cb3 cb4
        have hA := hide hA
        have hB := hide hB
        go_wp2_with fail
        refine (unhide HZ _).mono ?_
        rintro e W4 ⟨rfl, hw4⟩
        have hA := (unhide hA).below hw4 (unhide hA).lt
        have hB := (unhide hB).below hw4 (unhide hB).lt
        have hw := below3 hw hw4
        clear hw4
        obtain ⟨ca0, ca1, ca2, ca3, ca4⟩ := id hA
        obtain ⟨cb0, cb1, cb2, cb3, cb4⟩ := id hB
        dsimp only at ca0 ca1 ca2 ca3 ca4 cb0 cb1 cb2 cb3 cb4
        have hA := hide hA
        have hB := hide hB
        go_wp2_with fail
        refine (unhide HU _).mono ?_
        rintro e W5 ⟨rfl, hw5⟩
        have hw := below3 hw hw5
        clear hw5
        go_wp2
        go_ret
        exact ⟨ret_bool (by cases u <;> rfl), hw⟩
    | false =>
      cases z with
      | false =>
        go_enter Try.func17, Try.ntmps17
        go_wp2_with fail
        refine (unhide HN _).mono ?_
        rintro e W0 ⟨rfl, hw0⟩
        obtain ⟨hA, hB, hw⟩ := unhide hx _ hw0
        clear hw0
        obtain ⟨ca0, ca1, ca2, ca3, ca4⟩ := id hA
        obtain ⟨cb0, cb1, cb2, cb3, cb4⟩ := id hB
        dsimp only at ca0 ca1 ca2 ca3 ca4 cb0 cb1 cb2 cb3 cb4
        have hA := hide hA
        have hB := hide hB
        go_wp2_with fail
        refine (unhide HL _).mono ?_
        rintro e W1 ⟨rfl, hw1⟩
        have hA := (unhide hA).below hw1 (unhide hA).lt
        have hB := (unhide hB).below hw1 (unhide hB).lt
        have hw := below3 hw hw1
        clear hw1
        obtain ⟨ca0, ca1, ca2, ca3, ca4⟩ := id hA
        obtain ⟨cb0, cb1, cb2, cb3, cb4⟩ := id hB
        dsimp only at ca0 ca1 ca2 ca3 ca4 cb0 cb1 cb2 cb3 cb4
        have hA := hide hA
        have hB := hide hB
        go_wp2_with fail
        refine (unhide HX _).mono ?_
        rintro e W2 ⟨rfl, hw2⟩
        have hA := (unhide hA).below hw2 (unhide hA).lt
        have hB := (unhide hB).below hw2 (unhide hB).lt
        have hw := below3 hw hw2
        clear hw2
        obtain ⟨ca0, ca1, ca2, ca3, ca4⟩ := id hA
        obtain ⟨cb0, cb1, cb2, cb3, cb4⟩ := id hB
        dsimp only at ca0 ca1 ca2 ca3 ca4 cb0 cb1 cb2 cb3 cb4
        have hA := hide hA
        have hB := hide hB
        go_wp2_with fail
        refine (unhide HZ _).mono ?_
        rintro e W3 ⟨rfl, hw3⟩
        have hw := below3 hw hw3
        clear hw3
        go_wp2
        go_ret
        exact ⟨ret_bool (by cases y <;> rfl), hw⟩
      | true =>
        go_enter Try.func17, Try.ntmps17
        go_wp2_with fail
        refine (unhide HN _).mono ?_
        rintro e W0 ⟨rfl, hw0⟩
        obtain ⟨hA, hB, hw⟩ := unhide hx _ hw0
        clear hw0
        obtain ⟨ca0, ca1, ca2, ca3, ca4⟩ := id hA
        obtain ⟨cb0, cb1, cb2, cb3, cb4⟩ := id hB
        dsimp only at ca0 ca1 ca2 ca3 ca4 cb0 cb1 cb2 cb3 cb4
        have hA := hide hA
        have hB := hide hB
        go_wp2_with fail
        refine (unhide HL _).mono ?_
        rintro e W1 ⟨rfl, hw1⟩
        have hA := (unhide hA).below hw1 (unhide hA).lt
        have hB := (unhide hB).below hw1 (unhide hB).lt
        have hw := below3 hw hw1
        clear hw1
        obtain ⟨ca0, ca1, ca2, ca3, ca4⟩ := id hA
        obtain ⟨cb0, cb1, cb2, cb3, cb4⟩ := id hB
        dsimp only at ca0 ca1 ca2 ca3 ca4 cb0 cb1 cb2 cb3 cb4
        have hA := hide hA
        have hB := hide hB
        go_wp2_with fail
        refine (unhide HX _).mono ?_
        rintro e W2 ⟨rfl, hw2⟩
        have hA := (unhide hA).below hw2 (unhide hA).lt
        have hB := (unhide hB).below hw2 (unhide hB).lt
        have hw := below3 hw hw2
        clear hw2
        obtain ⟨ca0, ca1, ca2, ca3, ca4⟩ := id hA
        obtain ⟨cb0, cb1, cb2, cb3, cb4⟩ := id hB
        dsimp only at ca0 ca1 ca2 ca3 ca4 cb0 cb1 cb2 cb3 cb4
        have hA := hide hA
        have hB := hide hB
        go_wp2_with fail
        refine (unhide HZ _).mono ?_
        rintro e W3 ⟨rfl, hw3⟩
        have hA := (unhide hA).below hw3 (unhide hA).lt
        have hB := (unhide hB).below hw3 (unhide hB).lt
        have hw := below3 hw hw3
        clear hw3
        obtain ⟨ca0, ca1, ca2, ca3, ca4⟩ := id hA
        obtain ⟨cb0, cb1, cb2, cb3, cb4⟩ := id hB
        dsimp only at ca0 ca1 ca2 ca3 ca4 cb0 cb1 cb2 cb3 cb4
        have hA := hide hA
        have hB := hide hB
        go_wp2_with fail
        refine (unhide HU _).mono ?_
        rintro e W4 ⟨rfl, hw4⟩
        have hw := below3 hw hw4
        clear hw4
        go_wp2
        go_ret
        exact ⟨ret_bool (by cases y <;> cases u <;> rfl), hw⟩
end Go.Proofs.Ytmapohaobinjjaa

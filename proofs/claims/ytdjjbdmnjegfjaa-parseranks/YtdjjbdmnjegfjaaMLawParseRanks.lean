/-
  ParseRanks' walk.
-/
import Derived.Test.YtdjjbdmnjegfjaaB23
import Derived.Test.YtdjjbdmnjegfjaaMTokRank
import Derived.Test.YtdjjbdmnjegfjaaMModIx
import Derived.Test.YtdjjbdmnjegfjaaMLst
import Derived.KernelRfl
namespace Go.Proofs.Ytdjjbdmnjegfjaa
open Go.RowKit Go.Lib Go.Sort
set_option linter.unusedSimpArgs false
set_option linter.unusedVariables false
set_option maxRecDepth 100000
def opsP : List (List UInt8) := [[124, 124], [38, 38], [61, 61], [33, 61], [60], [43], [45], [42]]
def opL (x : Nat) : List UInt8 := opsP.getD x []
def rkS (x y : Nat) : List UInt8 := [49, 32] ++ opL x ++ [32, 50, 32] ++ opL y ++ [32, 51]
def rkX (left : Bool) : Nd := if left then ⟨24, 10, .cons 24 8 (.cons 21 7 .nil (.cons 21 9 .nil .nil)) (.cons 21 11 .nil .nil)⟩ else ⟨24, 8, .cons 21 7 .nil (.cons 24 10 (.cons 21 9 .nil (.cons 21 11 .nil .nil)) .nil)⟩
def rkB (x y : Nat) : Bool := decide (rankN (bs (opL y)) ≤ rankN (bs (opL x)))
def isOk (r : PR F) (l : F) (o : Nat) : Bool := match r with
  | .ok l' o' => decide (l' = l) && decide (o' = o)
  | _ => false
theorem isOk_eq {r : PR F} {l : F} {o : Nat} (h : isOk r l o = true) : r = .ok l o := by
  cases r with
  | out => cases h
  | bad j => cases h
  | ok l' o' =>
    simp only [isOk, Bool.and_eq_true, decide_eq_true_eq] at h
    rw [h.1, h.2]
def rkChk (x y : Nat) : Bool :=
  decide ((scanA (exT (rkS x y))).2.2 = -1) && decide ((scanA (exT (rkS x y))).1.length = 14) && isOk (filU (scanA (exT (rkS x y))).1 60 0) (exF (rkX (rkB x y))) 14 &&
  decide ((tkA (scanA (exT (rkS x y))).1 8).s.data.toList = opL x) && decide ((tkA (scanA (exT (rkS x y))).1 10).s.data.toList = opL y) && (rkB x y || !(opL x == opL y))
theorem rk_all : ((List.range 8).all fun x => (List.range 8).all fun y => rkChk x y) = true := by kernel_rfl
theorem rk_at {x y : Nat} (hx : x < 8) (hy : y < 8) : rkChk x y = true := List.all_eq_true.1 (List.all_eq_true.1 rk_all x (List.mem_range.2 hx)) y (List.mem_range.2 hy)
set_option maxHeartbeats 8000000 in
theorem parseRanks_shell (a0 : Int) (a1 : Int) (w0 : (Lit.int .i64 a0).wf = true) (w1 : (Lit.int .i64 a1).wf = true) (w : World) :
    Calls Try.prog 3 #[.int .i64 a0, .int .i64 a1] w fun e w' => e = .returned (.bool true) ∧ Below w.heap.size w w' := by
  obtain ⟨hn0, hn1⟩ := bounds_i64 w0
  obtain ⟨hn2, hn3⟩ := bounds_i64 w1
  clear w0 w1
  obtain ⟨x, hx, hx8⟩ := mod_ix a0 8 (by omega) (by omega)
  obtain ⟨y, hy, hy8⟩ := mod_ix a1 8 (by omega) (by omega)
  have hx8' : x < 8 := by omega
  have hy8' : y < 8 := by omega
  have hc := rk_at hx8' hy8'
  unfold rkChk at hc
  simp only [Bool.and_eq_true, decide_eq_true_eq] at hc
  obtain ⟨⟨⟨⟨⟨c1, c2⟩, c3⟩, c4⟩, c5⟩, c6⟩ := hc
  have c3 := isOk_eq c3
  have hlS : (rkS x y).length ≤ 600000 := by
    have h1 : ∀ z, z < 8 → (opL z).length ≤ 2 := by decide
    have h2 := h1 x hx8'
    have h3 := h1 y hy8'
    simp only [rkS, List.length_append, List.length_cons, List.length_nil]
    omega
  have HE := fun w => plExpr_of (rkS x y) w hlS (f := 60) (by decide) (rkX (rkB x y)) 14 (by rw [c2]; decide) c1 c3 (by rw [c2]; decide)
  have HB := fun w => plBegun_any w
  have hT : (⟨#[49, 32]⟩ : ByteArray) ++ bs (opL x) ++ ⟨#[32, 50, 32]⟩ ++ bs (opL y) ++ ⟨#[32, 51]⟩ = bs (rkS x y) := by
    show bs [49, 32] ++ bs (opL x) ++ bs [32, 50, 32] ++ bs (opL y) ++ bs [32, 51] = _
    rw [bs_app, bs_app, bs_app, bs_app]
    rfl
  have hzA : (bs (opL x)).size ≤ 100 := by rw [bs_size]; have h1 : ∀ z, z < 8 → (opL z).length ≤ 2 := by decide
                                           have := h1 x hx8'; omega
  have hzB : (bs (opL y)).size ≤ 100 := by rw [bs_size]; have h1 : ∀ z, z < 8 → (opL z).length ≤ 2 := by decide
                                           have := h1 y hy8'; omega
  have hcell : ∀ (W : World) (z : Nat), z < 8 → (W.alloc (.cells (opsP.map fun l => Value.string (bs l)).toArray 9)).cell? ⟨W.heap.size, z, none⟩ = some (.string (bs (opL z))) := fun W z hz => by
    obtain ⟨_, _, _, he, _, _, _, h4⟩ := lst_alloc W (opsP.map fun l => Value.string (bs l)) 9 (0, 0) (by decide)
    simp only [Value.slice.injEq, Option.some.injEq, Addr.mk.injEq, true_and, and_true] at he
    obtain ⟨⟨rfl, rfl⟩, rfl⟩ := he
    have h := h4 z hz
    rw [Nat.zero_add] at h
    rw [h]
    have hz' : z < opsP.length := hz
    simp [List.getD, opL, hz']
  have hRx := fun w => rRank_any (bs (opL x)) w
  have hRy := fun w => rRank_any (bs (opL y)) w
  have h8 := eq_bs c4
  have h10 := eq_bs c5
  have hne : rkB x y = false → ((bs (opL x)).toList == (bs (opL y)).toList) = false := fun h => by
    rw [h, Bool.false_or] at c6
    rw [bs_toList, bs_toList]
    simpa using c6
  have hrk : rkB x y = true ↔ rankN (bs (opL y)) ≤ rankN (bs (opL x)) := by unfold rkB; exact decide_eq_true_iff
  have hcx := fun W => hcell W x hx8'
  have hcy := fun W => hcell W y hy8'
  clear c1 c3 c4 c5 c6 hlS hcell
  generalize rkB x y = lf at *
  generalize scanA (exT (rkS x y)) = R at *
  generalize bs (rkS x y) = S at *
  generalize bs (opL x) = A at *
  generalize bs (opL y) = B at *
  generalize rankN A = rx at *
  generalize rankN B = ry at *
  replace HE := hide HE
  replace HB := hide HB
  replace hRx := hide hRx
  replace hRy := hide hRy
  replace hcx := hide hcx
  replace hcy := hide hcy
  replace hT := hide hT
  replace hne := hide hne
  replace hrk := hide hrk
  replace h8 := hide h8
  replace h10 := hide h10
  replace c2 := hide c2
  go_enter Try.func3, Try.ntmps3
  go_wp2_with fail
  refine (unhide HB _).mono ?_
  rintro e W1 ⟨rfl, hb1⟩
  go_upto_region 5 with fail
  have hx1 : (W1.alloc (.cells #[.string ⟨#[124, 124]⟩, .string ⟨#[38, 38]⟩, .string ⟨#[61, 61]⟩, .string ⟨#[33, 61]⟩, .string ⟨#[60]⟩, .string ⟨#[43]⟩, .string ⟨#[45]⟩, .string ⟨#[42]⟩] 9 (0, 0))).cell? ⟨W1.heap.size, x, none⟩ = some (.string A) := unhide hcx W1
  have hy1 : (W1.alloc (.cells #[.string ⟨#[124, 124]⟩, .string ⟨#[38, 38]⟩, .string ⟨#[61, 61]⟩, .string ⟨#[33, 61]⟩, .string ⟨#[60]⟩, .string ⟨#[43]⟩, .string ⟨#[45]⟩, .string ⟨#[42]⟩] 9 (0, 0))).cell? ⟨W1.heap.size, y, none⟩ = some (.string B) := unhide hcy W1
  have hb2 := hb1.trans ((below_alloc W1 (.cells #[.string ⟨#[124, 124]⟩, .string ⟨#[38, 38]⟩, .string ⟨#[61, 61]⟩, .string ⟨#[33, 61]⟩, .string ⟨#[60]⟩, .string ⟨#[43]⟩, .string ⟨#[45]⟩, .string ⟨#[42]⟩] 9 (0, 0))).mono hb1.size)
  clear hcx hcy hb1
  generalize W1.alloc (.cells #[.string ⟨#[124, 124]⟩, .string ⟨#[38, 38]⟩, .string ⟨#[61, 61]⟩, .string ⟨#[33, 61]⟩, .string ⟨#[60]⟩, .string ⟨#[43]⟩, .string ⟨#[45]⟩, .string ⟨#[42]⟩] 9 (0, 0)) = W2 at *
  generalize W1.heap.size = gl at *
  replace hb2 := hide hb2
  go_quiet (fail)
  have hb3 := hide ((unhide hb2).trans ((show Below W2.heap.size W2 (W2.drewN nq) from ⟨rfl, rfl, rfl, Nat.le_refl _, fun _ _ => rfl⟩).mono (unhide hb2).size))
  generalize W2.drewN nq = W3 at *
  clear hx1 hy1 hb2 hx hy hx8 hy8 hx8' hy8'
  have hT2 := unhide hT
  go_wp2_with fail
  clear hT2
  refine (unhide HE _).mono ?_
  rintro e W4 ⟨a, m, c, v, rfl, hs, hTk, hb4⟩
  have hbx := below_alloc W4 (.cells #[.int .i64 (rkX lf).k, .int .i64 (rkX lf).t, .slice a m c] 26 (0, 0))
  have hF : BoxT W3 (W4.alloc (.cells #[.int .i64 (rkX lf).k, .int .i64 (rkX lf).t, .slice a m c] 26 (0, 0))) W4.heap.size (rkX lf).k (rkX lf).t a m c (rkX lf).c v R.1 := ⟨nblk_new W4 _ _ a m c, hs.below hbx, hTk.below hbx, hb4.trans (hbx.mono hb4.size)⟩
  clear hs hTk hb4 hbx HE HB hT
  have c2 := unhide c2
  cases lf with
  | true =>
    have hr := (unhide hrk).1 rfl
    clear hrk hne
    obtain ⟨p0, p1, p2⟩ := hF.1.box
    simp only [rkX, if_true] at p0 p1 p2
    replace hF := hide hF
    go_wp2_with fail
    refine (unhide hRx _).mono ?_
    rintro e W5 ⟨rfl, hb5⟩
    replace hF := hide ((unhide hF).below hb5)
    clear hb5 p0 p1 p2
    go_wp2_with fail
    refine (unhide hRy _).mono ?_
    rintro e W6 ⟨rfl, hb6⟩
    replace hF := hide ((unhide hF).below hb6)
    clear hb6
    go_wp2_with fail
    refine (unhide hRx _).mono ?_
    rintro e W7 ⟨rfl, hb7⟩
    replace hF := hide ((unhide hF).below hb7)
    clear hb7
    go_wp2_with fail
    refine (unhide hRy _).mono ?_
    rintro e W8 ⟨rfl, hb8⟩
    have hF8 := (unhide hF).below hb8
    clear hb8 hF
    obtain ⟨hN8, hs8, hT8, hB8⟩ := hF8
    obtain ⟨p0, p1, p2⟩ := hN8.box
    obtain ⟨e1, e2, e3, h3⟩ := hs8
    obtain rfl : m = 2 := e1
    obtain ⟨g1, o1, rfl, ht1, x0, x1, ⟨a2, n2, c2', x2, _⟩, y0, y1, _⟩ := h3 (by decide)
    obtain ⟨a', ca, rfl, ha1, ha2, ha3⟩ := hT8
    obtain ⟨ga, rfl, hga, hca⟩ := ha3 (by omega)
    obtain ⟨q0, q1, q2, q3, q4⟩ := hca 8 _ (tkA_in (by omega))
    obtain ⟨r0, r1, r2, r3, r4⟩ := hca 10 _ (tkA_in (by omega))
    rw [unhide h8] at q1
    rw [unhide h10] at r1
    simp only [Nat.reduceMul, Nat.reduceAdd] at q1 r1
    have hcap := e2.1
    have hfin := hide ((unhide hb3).trans (hB8.mono (unhide hb3).size))
    rw [c2] at ha1
    clear hN8 h3 ht1 ha3 hca q0 q2 q3 q4 r0 r2 r3 r4 hB8
    simp only [rkX, if_true] at p0 p1 p2 ⊢
    go_wp2
    all_goals go_ret
    all_goals exact ⟨by rfl, unhide hfin⟩
  | false =>
    have hr : ¬ ry ≤ rx := fun h => by cases (unhide hrk).2 h
    have hq := unhide hne rfl
    clear hrk hne
    obtain ⟨p0, p1, p2⟩ := hF.1.box
    simp only [rkX, Bool.false_eq_true, if_false] at p0 p1 p2
    replace hF := hide hF
    go_wp2_with fail
    refine (unhide hRx _).mono ?_
    rintro e W5 ⟨rfl, hb5⟩
    replace hF := hide ((unhide hF).below hb5)
    clear hb5 p0 p1 p2
    go_wp2_with fail
    refine (unhide hRy _).mono ?_
    rintro e W6 ⟨rfl, hb6⟩
    have hF8 := (unhide hF).below hb6
    clear hb6 hF
    obtain ⟨hN8, hs8, hT8, hB8⟩ := hF8
    obtain ⟨p0, p1, p2⟩ := hN8.box
    obtain ⟨e1, e2, e3, h3⟩ := hs8
    obtain rfl : m = 2 := e1
    obtain ⟨g1, o1, rfl, ht1, x0, x1, ⟨a2, n2, c2', x2, _⟩, y0, y1, _⟩ := h3 (by decide)
    obtain ⟨a', ca, rfl, ha1, ha2, ha3⟩ := hT8
    obtain ⟨ga, rfl, hga, hca⟩ := ha3 (by omega)
    obtain ⟨q0, q1, q2, q3, q4⟩ := hca 8 _ (tkA_in (by omega))
    obtain ⟨r0, r1, r2, r3, r4⟩ := hca 10 _ (tkA_in (by omega))
    rw [unhide h8] at q1
    rw [unhide h10] at r1
    simp only [Nat.reduceMul, Nat.reduceAdd] at q1 r1
    have hcap := e2.1
    have hfin := hide ((unhide hb3).trans (hB8.mono (unhide hb3).size))
    rw [c2] at ha1
    clear hN8 h3 ht1 ha3 hca q0 q2 q3 q4 r0 r2 r3 r4 hB8
    simp only [rkX, Bool.false_eq_true, if_false] at p0 p1 p2 ⊢
    go_wp2
    all_goals go_ret
    all_goals exact ⟨by rfl, unhide hfin⟩
end Go.Proofs.Ytdjjbdmnjegfjaa

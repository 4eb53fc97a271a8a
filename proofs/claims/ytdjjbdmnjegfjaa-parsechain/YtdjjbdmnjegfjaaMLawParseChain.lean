/-
  ParseChain's walk.
-/
import Derived.Test.YtdjjbdmnjegfjaaMPcChain
import Derived.Test.YtdjjbdmnjegfjaaB23
import Derived.Test.YtdjjbdmnjegfjaaMModIx
import Derived.Test.YtdjjbdmnjegfjaaMLst
namespace Go.Proofs.Ytdjjbdmnjegfjaa
open Go.RowKit Go.Lib Go.Sort
set_option linter.unusedSimpArgs false
set_option linter.unusedVariables false
set_option maxRecDepth 100000
def opsC : List (List UInt8) := [[124, 124], [38, 38], [61, 61], [33, 61], [60], [43], [45], [42]]
def opC (z : Nat) : List UInt8 := opsC.getD z []
def unitC (o : List UInt8) : List Pc := [.bl, .op o, .bl, .wd [98]]
theorem opC_facts {z : Nat} (hz : z < 8) : 0 < rankN (bs (opC z)) ∧ stopT (rankN (bs (opC z))) (4, bs (opC z)) = true ∧ okR [10] (unitC (opC z)) = true ∧ (∀ q, okR (txts (unitC (opC z)) ++ q) (unitC (opC z)) = true) ∧ (∀ q, (Pc.wd [97]).okP (txts (unitC (opC z)) ++ q) = true) ∧ (unitC (opC z)).all Pc.plain = true ∧ (opC z).length ≤ 2 := by
  have h : z = 0 ∨ z = 1 ∨ z = 2 ∨ z = 3 ∨ z = 4 ∨ z = 5 ∨ z = 6 ∨ z = 7 := by omega
  rcases h with rfl | rfl | rfl | rfl | rfl | rfl | rfl | rfl
  all_goals exact ⟨of_decide_eq_true (by kernel_rfl), by kernel_rfl, by kernel_rfl, fun q => by kernel_rfl, fun q => by kernel_rfl, by kernel_rfl, by decide⟩
/-- The law's text. -/
def chA (o : List UInt8) : Nat → List UInt8
  | 0 => [97]
  | n + 1 => chA o n ++ ([32] ++ o ++ [32, 98])
theorem chA_txts (o : List UInt8) : ∀ n : Nat, chA o n = txts (.wd [97] :: repP (unitC o) n)
  | 0 => rfl
  | n + 1 => by
    rw [chA, chA_txts o n, repP_snoc]
    simp only [txts, txts_app, unitC, Pc.txt, List.append_assoc, List.append_nil, List.cons_append, List.nil_append]
theorem chA_len (o : List UInt8) (ho : o.length ≤ 2) : ∀ n : Nat, (chA o n).length ≤ 1 + n * 5
  | 0 => by simp [chA]
  | n + 1 => by
    have := chA_len o ho n
    simp only [chA, List.length_append, List.length_cons, List.length_nil]
    omega
theorem repK_last (o : List UInt8) : ∀ n : Nat, ∃ K t, (1, bs [97]) :: repK [(4, bs o), (1, bs [98])] n = K ++ [t] ∧ endK t = true
  | 0 => ⟨[], (1, bs [97]), rfl, rfl⟩
  | n + 1 => by
    have key : ∀ n : Nat, repK [((4 : Int), bs o), (1, bs [98])] (n + 1) = repK [((4 : Int), bs o), (1, bs [98])] n ++ [((4 : Int), bs o), (1, bs [98])] := by
      intro n
      induction n with
      | zero => rfl
      | succ n ih =>
        show [((4 : Int), bs o), (1, bs [98])] ++ repK [((4 : Int), bs o), (1, bs [98])] (n + 1) = [((4 : Int), bs o), (1, bs [98])] ++ repK [((4 : Int), bs o), (1, bs [98])] n ++ [((4 : Int), bs o), (1, bs [98])]
        rw [ih, List.append_assoc]
    exact ⟨(1, bs [97]) :: repK [(4, bs o), (1, bs [98])] n ++ [(4, bs o)], (1, bs [98]), by rw [key]; simp, rfl⟩
/-- What expr answers. -/
theorem ch_expr {z : Nat} (hz : z < 8) (n : Nat) (hn : n ≤ 60) (w : World) : Calls Try.prog 9 #[.string (bs (chA (opC z) n))] w fun e w' => ∃ (a : Option Addr) (m c : Nat) (v : Value) (k t : Int) (f : F), e = .returned (.tuple #[.agg #[.int .i64 k, .int .i64 t, .slice a m c], v, .bool true]) ∧ SlQ (fun y => w.heap.size ≤ y) w' a m c f ∧ chC n k f ∧ Below w.heap.size w w' := by
  obtain ⟨h1, h2, h3, h4, h5, h6, h7⟩ := opC_facts hz
  have hlen := chA_len (opC z) h7 n
  obtain ⟨K, t, hK, ht⟩ := repK_last (opC z) n
  have hkps : kps (.wd [97] :: repP (unitC (opC z)) n) = (1, bs [97]) :: repK [(4, bs (opC z)), (1, bs [98])] n := by
    rw [kps, kps_rep]
    rfl
  have ho : okR [10] (.wd [97] :: repP (unitC (opC z)) n) = true := by
    rw [okR, okR_rep _ _ h3 h4 n, Bool.and_true]
    cases n with
    | zero => rfl
    | succ n => rw [repP, txts_app, List.append_assoc]; exact h5 _
  obtain ⟨s1, s2⟩ := scan_expr (.wd [97] :: repP (unitC (opC z)) n) t K (by rw [hkps, hK]) ht (by show noNl (repP (unitC (opC z)) n) = true; exact noNl_rep _ rfl n) ho (by rw [List.all_cons, plain_rep _ h6 n]; rfl) (by rw [← chA_txts]; omega)
  rw [← chA_txts] at s1 s2
  rw [hkps] at s2
  generalize hR : scanA (exT (chA (opC z) n)) = R at s1 s2
  have hat : At R.1 0 (headE ++ ((1, bs [97]) :: (repK [(4, bs (opC z)), (1, bs [98])] n ++ semE))) := s2
  have hx := chain_abs h1 h2 n R.1 7 (n + 8) hat.skip (by omega)
  have hj : At R.1 (7 + 1 + 2 * n) semE := by
    have h8 : At R.1 (7 + 1) (repK [(4, bs (opC z)), (1, bs [98])] n ++ semE) := (hat.skip (A := headE)).next
    have := h8.skip
    have hlk : ∀ m : Nat, (repK [((4 : Int), bs (opC z)), (1, bs [98])] m).length = 2 * m := by
      intro m
      induction m with
      | zero => rfl
      | succ m ih => simp only [repK, List.length_append, List.length_cons, List.length_nil, ih]; omega
    rw [hlk n] at this
    exact this
  have hfil := file_expr (f := n + 7) hat hx hj
  have hl := hj.len (Nat.le_of_lt hj.lt)
  refine (plExpr_of (chA (opC z) n) w (by omega) (f := n + 7 + 2) (by omega) _ _ (by rw [hR, hl]; simp [semE]; omega) (by rw [hR]; exact s1) (by rw [hR]; exact hfil) (by rw [hR, hl]; simp [semE])).mono ?_
  rintro e w' ⟨a, m, c, v, rfl, hs, hT, hb⟩
  have hC := chT_C n 0 ⟨20, (7 : Nat), .nil⟩ (7 + 1) rfl
  rw [Nat.zero_add] at hC
  exact ⟨a, m, c, v, _, _, _, rfl, hs, hC, hb⟩
/-- A node in its box, with all that is beneath it in blocks ahead of the box. -/
def BoxX (w0 w : World) (b : Nat) (k t : Int) (a : Option Addr) (m c : Nat) (f : F) : Prop := NBlk w b k t a m c ∧ SlQ (fun y => y < b) w a m c f ∧ Below w0.heap.size w0 w ∧ w0.heap.size ≤ b
theorem BoxX.set {w0 w : World} {b : Nat} {k t : Int} {a : Option Addr} {m c : Nat} {f : F} (h : BoxX w0 w b k t a m c f) {k' t' : Int} {a' : Option Addr} {m' c' : Nat} {f' : F} (hs : SlQ (fun y => y < b) w a' m' c' f') :
    BoxX w0 (((w.setCell ⟨b, 0, none⟩ (.int .i64 k')).setCell ⟨b, 1, none⟩ (.int .i64 t')).setCell ⟨b, 2, none⟩ (.slice a' m' c')) b k' t' a' m' c' f' :=
  ⟨h.1.set3, hs.keep (fun y hy => box_heap w b k' t' a' m' c' y (by have := hy.1; omega)), ((h.2.2.1.setCell (p := ⟨b, 0, none⟩) h.2.2.2 _).setCell (p := ⟨b, 1, none⟩) h.2.2.2 _).setCell (p := ⟨b, 2, none⟩) h.2.2.2 _, h.2.2.2⟩
theorem boxX_new {w0 W : World} {k t : Int} {a : Option Addr} {m c : Nat} {f : F} {P : Nat → Prop} (hs : SlQ P W a m c f) (hb : Below w0.heap.size w0 W) : BoxX w0 (W.alloc (.cells #[.int .i64 k, .int .i64 t, .slice a m c] 26 (0, 0))) W.heap.size k t a m c f :=
  ⟨nblk_new W k t a m c, (hs.mono (P' := fun y => y < W.heap.size) (fun y hy => hy.lt)).below (below_alloc _ _), hb.trans ((below_alloc W _).mono hb.size), hb.size⟩
set_option maxHeartbeats 8000000 in
theorem parseChain_shell (a0 : Int) (a1 : Int) (w0 : (Lit.int .i64 a0).wf = true) (w1 : (Lit.int .i64 a1).wf = true) (w : World) :
    Calls Try.prog 4 #[.int .i64 a0, .int .i64 a1] w fun e w' => e = .returned (.bool true) ∧ Below w.heap.size w w' := by
  obtain ⟨hn0, hn1⟩ := bounds_i64 w0
  obtain ⟨hn2, hn3⟩ := bounds_i64 w1
  clear w0 w1
  have HB := fun w => plBegun_any w
  replace HB := hide HB
  by_cases h1 : a0 < 1
  · go_enter Try.func4, Try.ntmps4
    go_wp2_with fail
    refine (unhide HB _).mono ?_
    rintro e W1 ⟨rfl, hb1⟩
    have hb2 := hide (hb1.trans ((below_alloc W1 (.cells #[.string ⟨#[124, 124]⟩, .string ⟨#[38, 38]⟩, .string ⟨#[61, 61]⟩, .string ⟨#[33, 61]⟩, .string ⟨#[60]⟩, .string ⟨#[43]⟩, .string ⟨#[45]⟩, .string ⟨#[42]⟩] 9 (0, 0))).mono hb1.size))
    go_wp2
    go_ret
    exact ⟨rfl, unhide hb2⟩
  by_cases h2 : 60 < a0
  · go_enter Try.func4, Try.ntmps4
    go_wp2_with fail
    refine (unhide HB _).mono ?_
    rintro e W1 ⟨rfl, hb1⟩
    have hb2 := hide (hb1.trans ((below_alloc W1 (.cells #[.string ⟨#[124, 124]⟩, .string ⟨#[38, 38]⟩, .string ⟨#[61, 61]⟩, .string ⟨#[33, 61]⟩, .string ⟨#[60]⟩, .string ⟨#[43]⟩, .string ⟨#[45]⟩, .string ⟨#[42]⟩] 9 (0, 0))).mono hb1.size))
    go_wp2
    go_ret
    exact ⟨rfl, unhide hb2⟩
  obtain ⟨n, rfl⟩ : ∃ n : Nat, a0 = n := ⟨a0.toNat, by omega⟩
  obtain ⟨z, hz, hz8⟩ := mod_ix a1 8 (by omega) (by omega)
  have hz8' : z < 8 := by omega
  have hcell : ∀ (W : World), (W.alloc (.cells (opsC.map fun l => Value.string (bs l)).toArray 9)).cell? ⟨W.heap.size, z, none⟩ = some (.string (bs (opC z))) := fun W => by
    obtain ⟨_, _, _, he, _, _, _, h4⟩ := lst_alloc W (opsC.map fun l => Value.string (bs l)) 9 (0, 0) (by decide)
    simp only [Value.slice.injEq, Option.some.injEq, Addr.mk.injEq, true_and, and_true] at he
    obtain ⟨⟨rfl, rfl⟩, rfl⟩ := he
    have h := h4 z (by rw [List.length_map]; exact hz8')
    rw [Nat.zero_add] at h
    rw [h]
    have hz' : z < opsC.length := hz8'
    simp [List.getD, opC, hz']
  have ho2 := (opC_facts hz8').2.2.2.2.2.2
  have hstep : ∀ i : Nat, bs (chA (opC z) i) ++ ((⟨#[32]⟩ : ByteArray) ++ bs (opC z) ++ ⟨#[32, 98]⟩) = bs (chA (opC z) (i + 1)) := fun i => by
    show bs (chA (opC z) i) ++ (bs [32] ++ bs (opC z) ++ bs [32, 98]) = _
    rw [bs_app, bs_app, bs_app]
    rfl
  have hsz : ∀ i : Nat, i ≤ 60 → (bs (chA (opC z) i)).size ≤ 400 := fun i hi => by have := chA_len (opC z) ho2 i; rw [bs_size]; omega
  have hso : (bs (opC z)).size ≤ 2 := by rw [bs_size]; exact ho2
  have HE := hide (fun w => ch_expr hz8' n (by omega) w)
  clear ho2 hz8'
  generalize hA : bs (opC z) = A at *
  clear hA
  go_enter Try.func4, Try.ntmps4
  go_wp2_with fail
  refine (unhide HB _).mono ?_
  rintro e W1 ⟨rfl, hb1⟩
  clear HB
  have hc1 : (W1.alloc (.cells #[.string ⟨#[124, 124]⟩, .string ⟨#[38, 38]⟩, .string ⟨#[61, 61]⟩, .string ⟨#[33, 61]⟩, .string ⟨#[60]⟩, .string ⟨#[43]⟩, .string ⟨#[45]⟩, .string ⟨#[42]⟩] 9 (0, 0))).cell? ⟨W1.heap.size, z, none⟩ = some (.string A) := hcell W1
  have hb2 := hb1.trans ((below_alloc W1 (.cells #[.string ⟨#[124, 124]⟩, .string ⟨#[38, 38]⟩, .string ⟨#[61, 61]⟩, .string ⟨#[33, 61]⟩, .string ⟨#[60]⟩, .string ⟨#[43]⟩, .string ⟨#[45]⟩, .string ⟨#[42]⟩] 9 (0, 0))).mono hb1.size)
  obtain ⟨W2, hW2⟩ : ∃ W2, W1.alloc (.cells #[.string ⟨#[124, 124]⟩, .string ⟨#[38, 38]⟩, .string ⟨#[61, 61]⟩, .string ⟨#[33, 61]⟩, .string ⟨#[60]⟩, .string ⟨#[43]⟩, .string ⟨#[45]⟩, .string ⟨#[42]⟩] 9 (0, 0)) = W2 := ⟨_, rfl⟩
  obtain ⟨gl, hgl⟩ : ∃ gl, W1.heap.size = gl := ⟨_, rfl⟩
  rw [hW2, hgl] at hc1
  rw [hW2] at hb2
  clear hcell hb1
  replace hb2 := hide hb2
  go_wp2
  go_loopg [7, 8] n (fun gf s7 s8 wx => ∃ i : Nat, s7 = .string (bs (chA (opC z) i)) ∧ s8 = .int .i64 i ∧ i + gf = n ∧ wx = W2)
  case atStart => exact ⟨0, rfl, rfl, by omega, rfl⟩
  case round =>
    obtain ⟨i, rfl, rfl, hig, rfl⟩ := hrel
    by_cases hlt : i < n
    · have hlz : (i : Int) < n := by omega
      obtain ⟨g', rfl⟩ : ∃ g', gk = g' + 1 := ⟨gk - 1, by omega⟩
      have hs := hstep i
      have hz1 := hsz i (by omega)
      have hz2 : (z : Int) < 8 := hz8
      go_wp2
      go_roundg g'
      case measure => omega
      case rel => exact ⟨i + 1, by rw [← hs], by go_num, by omega, by trivial⟩
    · have hlz : ¬ (i : Int) < n := by omega
      obtain rfl : i = n := by omega
      clear hstep hsz hc1 hz hz8 hso hW2 hgl
      go_wp2_with fail
      refine (unhide HE _).mono ?_
      rintro e W4 ⟨a, m, c, v, k, t, f, rfl, hs4, hC4, hb4⟩
      have hX := boxX_new (k := k) (t := t) hs4 ((unhide hb2).trans (hb4.mono (unhide hb2).size))
      clear hs4 hb4 HE hb2
      obtain ⟨gb, hgb⟩ : ∃ gb, W4.heap.size = gb := ⟨_, rfl⟩
      obtain ⟨W5, hW5⟩ : ∃ W5, W4.alloc (.cells #[.int .i64 k, .int .i64 t, .slice a m c] 26 (0, 0)) = W5 := ⟨_, rfl⟩
      rw [hgb, hW5] at hX
      replace hX := hide hX
      go_wp2
      clear hW5 hgb
      go_loopg [12] i (fun gf s12 wx => ∃ j : Nat, ∃ (k t : Int) (a : Option Addr) (m c : Nat) (f : F), s12 = .int .i64 j ∧ j + gf = i ∧ BoxX w wx gb k t a m c f ∧ chC gf k f)
      case atStart => exact ⟨0, k, t, a, m, c, f, rfl, by omega, unhide hX, hC4⟩
      case round =>
        clear hX hC4
        obtain ⟨j, k, t, a, m, c, f, rfl, hjg, hX, hC⟩ := hrel
        obtain ⟨p0, p1, p2⟩ := hX.1.box
        cases gk with
        | zero =>
          obtain rfl : k = 20 := hC
          obtain rfl : j = i := by omega
          have hb9 := hide hX.2.2.1
          clear hX
          go_wp2
          go_ret
          exact ⟨rfl, unhide hb9⟩
        | succ g' =>
          obtain ⟨rfl, k1, t1, c1, t2, c2, rfl, hC1⟩ := hC
          obtain ⟨hN, hS, hB, hge⟩ := id hX
          obtain ⟨e1, e2, e3, h3⟩ := hS
          obtain rfl : m = 2 := e1
          obtain ⟨g1, o1, rfl, ht1, x0, x1, ⟨a2, n2, c2', x2, hs2⟩, y0, y1, _⟩ := h3 (by decide)
          have f0 := hN.frozen 0
          have f1 := hN.frozen 1
          have f2 := hN.frozen 2
          have hX2 := hide (hX.set (k' := k1) (t' := t1) (a' := a2) (m' := n2) (c' := c2') (f' := c1) hs2)
          have hcap := e2.1
          clear hX hN hB h3 ht1 hs2
          go_wp2
          go_roundg g'
          case measure => omega
          case rel => exact ⟨j + 1, k1, t1, a2, n2, c2', c1, by go_num, by omega, unhide hX2, hC1⟩
end Go.Proofs.Ytdjjbdmnjegfjaa

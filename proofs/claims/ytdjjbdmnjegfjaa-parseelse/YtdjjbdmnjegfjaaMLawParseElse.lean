/-
  ParseElse's walk.
-/
import Derived.Test.YtdjjbdmnjegfjaaMPcElse
import Derived.Test.YtdjjbdmnjegfjaaMPaBoxX
import Derived.Test.YtdjjbdmnjegfjaaB23
import Derived.KernelRfl
namespace Go.Proofs.Ytdjjbdmnjegfjaa
open Go.RowKit Go.Lib Go.Sort
set_option linter.unusedSimpArgs false
set_option linter.unusedVariables false
set_option maxRecDepth 100000
def headF : List Pc := [.wd [112, 97, 99, 107, 97, 103, 101], .bl, .wd [112], .nl, .wd [102, 117, 110, 99], .bl, .wd [102], .op [40], .op [41], .bl, .op [123], .bl]
theorem headF_tok : tokK [] headF = headU ++ [oL] := by kernel_rfl
theorem headF_ok (q : List UInt8) : okR q headF = true := by kernel_rfl
theorem headF_plain : headF.all Pc.plain = true := by kernel_rfl
/-- A text whose func is made of pieces. -/
theorem scan_func (ps : List Pc) (t : KS) (K : List KS) (hk : kps ps = K ++ [t]) (ht : endK t = true) (hn : noNl ps = true) (ho : okR [] ps = true) (hp : ps.all Pc.plain = true) (hl : (txts ps).length ≤ 1900) :
    (scanA (bs (txts (headF ++ ps)))).2.2 = -1 ∧ (scanA (bs (txts (headF ++ ps)))).1.map kap = headU ++ oL :: (kps ps ++ semE) := by
  have h := scan_pcs (headF ++ ps) (by rw [okR_nil, okR_app, headF_ok, ho]; rfl) (by rw [List.all_append, headF_plain, hp]; rfl) (by
    rw [txts_app, List.length_append]
    have : (txts headF).length = 21 := by decide
    omega)
  unfold scanA
  refine ⟨h.1, h.2.trans ?_⟩
  clear h
  rw [tokK_app, headF_tok, tokK_plain ps _ hn, hk]
  have e1 : semK (headU ++ [oL] ++ (K ++ [t])) = headU ++ [oL] ++ (K ++ [t]) ++ [semT] := by rw [← List.append_assoc (headU ++ [oL]), semK_snoc, ht, if_pos rfl]
  rw [e1]
  simp only [List.append_assoc, List.cons_append, List.nil_append, semE]
def baseP : List Pc := [.wd [105, 102], .bl, .wd [97], .bl, .op [123], .bl, .op [125]]
def elseP : List Pc := [.bl, .wd [101, 108, 115, 101], .bl, .wd [105, 102], .bl, .wd [98], .bl, .op [123], .bl, .op [125]]
def lastP (last : Bool) : List Pc := if last then [.bl, .wd [101, 108, 115, 101], .bl, .op [123], .bl, .op [125]] else []
def elseA (n : Nat) (last : Bool) : List Pc := baseP ++ (repP elseP n ++ (lastP last ++ [.bl, .op [125]]))
theorem elseA_kps (n : Nat) (last : Bool) : kps (elseA n last) = (5, kIfB) :: (1, bs [97]) :: oL :: oR :: (repK elU n ++ (elX last ++ [oR])) := by
  have h1 : kps baseP = [(5, kIfB), (1, bs [97]), oL, oR] := by kernel_rfl
  have h2 : kps elseP = elU := by kernel_rfl
  have h3 : kps (lastP last ++ [.bl, .op [125]]) = elX last ++ [oR] := by cases last <;> kernel_rfl
  rw [elseA, kps_app, kps_app, kps_rep, h1, h2, h3]
  rfl
theorem elseA_ok (n : Nat) (last : Bool) : okR [] (elseA n last) = true := by
  have b1 : ∀ q, okR (32 :: q) baseP = true := fun q => by kernel_rfl
  have b2 : ∀ q, okR (32 :: q) elseP = true := fun q => by kernel_rfl
  have b3 : okR [] (lastP last ++ [.bl, .op [125]]) = true := by cases last <;> kernel_rfl
  obtain ⟨q, hq⟩ : ∃ q, txts (lastP last ++ [.bl, .op [125]]) = 32 :: q := by cases last <;> exact ⟨_, rfl⟩
  obtain ⟨p, hp⟩ : ∃ p, txts (repP elseP n ++ (lastP last ++ [.bl, .op [125]])) = 32 :: p := by
    cases n with
    | zero => exact ⟨q, hq⟩
    | succ n => exact ⟨_, rfl⟩
  rw [elseA, okR_app, okR_app, List.append_nil, List.append_nil, hp, b1, hq, okR_rep elseP _ (b2 q) (fun q => b2 _) n, b3]
  rfl
def elA : Nat → List UInt8
  | 0 => [105, 102, 32, 97, 32, 123, 32, 125]
  | i + 1 => elA i ++ [32, 101, 108, 115, 101, 32, 105, 102, 32, 98, 32, 123, 32, 125]
def elS (n : Nat) (last : Bool) : List UInt8 := if last then elA n ++ [32, 101, 108, 115, 101, 32, 123, 32, 125] else elA n
def elT (n : Nat) (last : Bool) : ByteArray := bs ([112, 97, 99, 107, 97, 103, 101, 32, 112, 10, 102, 117, 110, 99, 32, 102, 40, 41, 32, 123, 32] ++ elS n last ++ [32, 125])
theorem elA_txts : ∀ n : Nat, elA n = txts (baseP ++ repP elseP n)
  | 0 => rfl
  | n + 1 => by
    rw [elA, elA_txts n, repP_snoc]
    simp only [txts_app, List.append_assoc]
    rfl
theorem elT_txts (n : Nat) (last : Bool) : elT n last = bs (txts (headF ++ elseA n last)) := by
  have h : elS n last = txts (baseP ++ (repP elseP n ++ lastP last)) := by
    unfold elS
    rw [elA_txts]
    cases last with
    | false => simp only [Bool.false_eq_true, if_false, lastP, List.append_nil]
    | true => simp only [if_true, txts_app, List.append_assoc]; rfl
  rw [elT, h, elseA]
  simp only [txts_app, List.append_assoc]
  rfl
theorem elA_len : ∀ n : Nat, (elA n).length = 8 + 14 * n
  | 0 => rfl
  | n + 1 => by rw [elA, List.length_append, elA_len n]; simp; omega
/-- The text's tree. -/
theorem el_text (n : Nat) (hn : n < 21) (last : Bool) (w : World) : Calls Try.prog 11 #[.string (elT n last)] w fun e w' => ∃ (a : Option Addr) (m c : Nat) (v : Value), e = .returned (.tuple #[.agg #[.int .i64 1, .int .i64 0, .slice a m c], v, .int .i64 (-1)]) ∧ (∃ t1 c1 t2 k3 t3 k t x, SlQ (fun y => w.heap.size ≤ y) w' a m c (.cons 2 t1 c1 (.cons 8 t2 (.cons k3 t3 (.cons k t x .nil) .nil) .nil)) ∧ elC last n k x) ∧ Below w.heap.size w w' := by
  have hlen : (txts (elseA n last)).length ≤ 400 := by
    have h1 := len_rep elseP n
    have h2 : (txts elseP).length = 14 := rfl
    have h3 : (txts baseP).length = 8 := rfl
    have h4 : (txts (lastP last ++ [.bl, .op [125]])).length ≤ 11 := by cases last <;> decide
    rw [elseA, txts_app, txts_app, List.length_append, List.length_append, h1, h2, h3]
    omega
  have hk := elseA_kps n last
  obtain ⟨s1, s2⟩ := scan_func (elseA n last) oR ((5, kIfB) :: (1, bs [97]) :: oL :: oR :: (repK elU n ++ elX last)) (by rw [hk]; simp only [List.cons_append, List.append_assoc]) rfl (by
      cases last <;> exact noNl_app _ _ rfl (noNl_app _ _ (noNl_rep _ rfl n) rfl)) (elseA_ok n last) (by
      rw [elseA, List.all_append, List.all_append, plain_rep _ (by kernel_rfl) n]
      cases last <;> rfl) (by omega)
  rw [hk] at s2
  have hz : (elT n last).size ≤ 700000 := by
    have := elA_len n
    cases last <;> simp only [elT, elS, bs_size, List.length_append, List.length_cons, List.length_nil, if_true, Bool.false_eq_true, if_false] <;> omega
  rw [elT_txts] at hz ⊢
  generalize bs (txts (headF ++ elseA n last)) = T at *
  generalize hR : scanA T = R at s1 s2
  have hat : At R.1 0 (headU ++ oL :: ((5, kIfB) :: (1, bs [97]) :: oL :: oR :: (repK elU n ++ (elX last ++ [oR])) ++ semE)) := s2
  have h7 : At R.1 7 (oL :: (5, kIfB) :: ((1, bs [97]) :: oL :: oR :: (repK elU n ++ (elX last ++ [oR])) ++ semE)) := hat.skip (A := headU)
  have h8 : At R.1 (7 + 1) ((5, kIfB) :: (1, bs [97]) :: oL :: oR :: (repK elU n ++ (elX last ++ oR :: semE))) := by
    have := h7.next
    simpa only [List.cons_append, List.append_assoc, List.nil_append] using this
  obtain ⟨t, c, hc, hC⟩ := cho_chain last semE n R.1 (7 + 1) 1 100 (bs [97]) h8 (by omega) (by omega)
  have hlk : ∀ m : Nat, (repK elU m).length = 5 * m := by
    intro m
    induction m with
    | zero => rfl
    | succ m ih => rw [repK, List.length_append, ih]; simp [elU]; omega
  have hj : At R.1 (7 + 1 + 4 + 5 * n + lenX last) (oR :: semE) := by
    have h := (h8.next.next.next.next.skip (A := repK elU n)).skip (A := elX last)
    rw [hlk n] at h
    cases last <;> exact h
  have hb := blk_if (f := 100) h7 hc hj (by omega)
  have hfil := file_func (f := 102) hat hb hj.next
  have hl := hj.len (Nat.le_of_lt hj.lt)
  have hlx : lenX last ≤ 3 := by cases last <;> decide
  refine (paText_ok T w hz (by rw [hR, s1]; decide) (by rw [hR, hl]; simp [semE]) (by rw [hR, hl]; simp [semE]; omega) (f := 104) (by decide) _ _ (by rw [hR]; exact filA_ok hfil)).mono ?_
  rintro e w' ⟨a, m, c', v, rfl, hs, hT, hb⟩
  exact ⟨a, m, c', v, rfl, ⟨_, _, _, _, _, _, _, _, hs, hC⟩, hb⟩
set_option maxHeartbeats 8000000 in
theorem parseElse_shell (a0 : Int) (a1 : Bool) (w0 : (Lit.int .i64 a0).wf = true) (w : World) :
    Calls Try.prog 7 #[.int .i64 a0, .bool a1] w fun e w' => e = .returned (.bool true) ∧ Below w.heap.size w w' := by
  obtain ⟨hn0, hn1⟩ := bounds_i64 w0
  clear w0
  have HB := fun w => plBegun_any w
  replace HB := hide HB
  by_cases h1 : a0 < 0
  · go_enter Try.func7, Try.ntmps7
    go_wp2_with fail
    refine (unhide HB _).mono ?_
    rintro e W1 ⟨rfl, hb1⟩
    go_wp2
    go_ret
    exact ⟨rfl, hb1⟩
  by_cases h2 : 20 < a0
  · go_enter Try.func7, Try.ntmps7
    go_wp2_with fail
    refine (unhide HB _).mono ?_
    rintro e W1 ⟨rfl, hb1⟩
    go_wp2
    go_ret
    exact ⟨rfl, hb1⟩
  obtain ⟨n, rfl⟩ : ∃ n : Nat, a0 = n := ⟨a0.toNat, by omega⟩
  have hn : n < 21 := by omega
  have hstep : ∀ i : Nat, bs (elA i) ++ (⟨#[32, 101, 108, 115, 101, 32, 105, 102, 32, 98, 32, 123, 32, 125]⟩ : ByteArray) = bs (elA (i + 1)) := fun i => by
    show bs (elA i) ++ bs [32, 101, 108, 115, 101, 32, 105, 102, 32, 98, 32, 123, 32, 125] = _
    rw [bs_app]
    rfl
  have hsz : ∀ i : Nat, i ≤ 20 → (bs (elA i)).size ≤ 300 := fun i hi => by rw [bs_size, elA_len]; omega
  have HT := hide (el_text n hn a1)
  go_enter Try.func7, Try.ntmps7
  go_wp2_with fail
  refine (unhide HB _).mono ?_
  rintro e W1 ⟨rfl, hb1⟩
  clear HB
  replace hb1 := hide hb1
  go_wp2
  go_loopg [6, 7] n (fun gf s6 s7 wx => ∃ i : Nat, s6 = .string (bs (elA i)) ∧ s7 = .int .i64 i ∧ i + gf = n ∧ wx = W1)
  case atStart => exact ⟨0, rfl, rfl, by omega, rfl⟩
  case round =>
    obtain ⟨i, rfl, rfl, hig, rfl⟩ := hrel
    by_cases hlt : i < n
    · have hlz : (i : Int) < n := by omega
      obtain ⟨g', rfl⟩ : ∃ g', gk = g' + 1 := ⟨gk - 1, by omega⟩
      have hs := hstep i
      have hz := hsz i (by omega)
      go_wp2
      go_roundg g'
      case measure => omega
      case rel => exact ⟨i + 1, by rw [← hs], by go_num, by omega, by trivial⟩
    · have hlz : ¬ (i : Int) < n := by omega
      obtain rfl : i = n := by omega
      have hz := hsz i (by omega)
      clear hstep hsz
      cases a1 with
      | true =>
        have hE : (⟨#[112, 97, 99, 107, 97, 103, 101, 32, 112, 10, 102, 117, 110, 99, 32, 102, 40, 41, 32, 123, 32]⟩ : ByteArray) ++ (bs (elA i) ++ ⟨#[32, 101, 108, 115, 101, 32, 123, 32, 125]⟩) ++ ⟨#[32, 125]⟩ = elT i true := by
          show bs [112, 97, 99, 107, 97, 103, 101, 32, 112, 10, 102, 117, 110, 99, 32, 102, 40, 41, 32, 123, 32] ++ (bs (elA i) ++ bs [32, 101, 108, 115, 101, 32, 123, 32, 125]) ++ bs [32, 125] = _
          simp only [bs_app]
          rfl
        have hz3 : (bs (elA i) ++ (⟨#[32, 101, 108, 115, 101, 32, 123, 32, 125]⟩ : ByteArray)).size ≤ 400 := by
          rw [ByteArray.size_append]
          have : (⟨#[32, 101, 108, 115, 101, 32, 123, 32, 125]⟩ : ByteArray).size = 9 := rfl
          omega
        go_wp2_with fail
        refine (unhide HT _).mono ?_
        rintro e W4 ⟨a, m, c, v, rfl, ⟨t1, c1, t2, k3, t3, k, t, x, hs4, hC4⟩, hb4⟩
        have hbx := below_alloc W4 (.cells #[.int .i64 1, .int .i64 0, .slice a m c] 26 (0, 0))
        have hB := (unhide hb1).trans ((hb4.trans (hbx.mono hb4.size)).mono (unhide hb1).size)
        obtain ⟨q0, q1, q2⟩ := (nblk_new W4 1 0 a m c).box
        obtain ⟨e1, e2, e3, h3⟩ := hs4.below hbx
        obtain rfl : m = 2 := e1
        obtain ⟨g1, o1, rfl, ht1, x0, x1, ⟨a2, n2, c2, x2, _⟩, y0, y1, ⟨a3, n3, c3', y2, f4, f5, f6, h5⟩, _⟩ := h3 (by decide)
        obtain rfl : n3 = 1 := f4
        obtain ⟨g2, o2, rfl, ht2, u0, u1, ⟨a4, n4, c4, u2, f7, f8, f9, h6⟩, _⟩ := h5 (by decide)
        obtain rfl : n4 = 1 := f7
        obtain ⟨g3, o3, rfl, ht3, v0, v1, ⟨a5, n5, c5, v2, hs5⟩, _⟩ := h6 (by decide)
        have hcap1 := e2.1
        have hcap2 := f5.1
        have hcap3 := f8.1
        obtain ⟨W5, hW5⟩ : ∃ W5, W4.alloc (.cells #[.int .i64 1, .int .i64 0, .slice (some ⟨g1, o1, none⟩) 2 c] 26 (0, 0)) = W5 := ⟨_, rfl⟩
        rw [hW5] at q0 q1 q2 x0 x1 x2 y0 y1 y2 u0 u1 u2 v0 v1 v2 hs5 hB
        obtain ⟨gb0, hgb0⟩ : ∃ gb0, W4.heap.size = gb0 := ⟨_, rfl⟩
        rw [hgb0] at q0 q1 q2
        have hX := boxX_new (P := fun y => wr.heap.size ≤ y) (k := k) (t := t) hs5 hB
        obtain ⟨gb, hgb⟩ : ∃ gb, W5.heap.size = gb := ⟨_, rfl⟩
        obtain ⟨W6, hW6⟩ : ∃ W6, W5.alloc (.cells #[.int .i64 k, .int .i64 t, .slice a5 n5 c5] 26 (0, 0)) = W6 := ⟨_, rfl⟩
        rw [hgb, hW6] at hX
        replace hX := hide hX
        clear hs4 hb4 hbx hB h3 h5 h6 ht1 ht2 ht3 HT hb1 hs5 hE
        go_wp2
        clear hW5 hgb hW6 hgb0 q0 q1 q2 x0 x1 x2 y0 y1 y2 u0 u1 u2 v0 v1 v2
        go_loopg [12] i (fun gf s12 wx => ∃ j : Nat, ∃ (k t : Int) (a : Option Addr) (m c : Nat) (f : F), s12 = .int .i64 j ∧ j + gf = i ∧ BoxX w wx gb k t a m c f ∧ elC true gf k f)
        case atStart => exact ⟨0, k, t, a5, n5, c5, x, rfl, by omega, unhide hX, hC4⟩
        case round =>
          clear hX hC4
          obtain ⟨j, k, t, a, m, c, f, rfl, hjg, hX, hC⟩ := hrel
          obtain ⟨p0, p1, p2⟩ := hX.1.box
          cases gk with
          | zero =>
            obtain rfl : j = i := by omega
            have hb9 := hide hX.2.2.1
            obtain ⟨rfl, hC⟩ := hC
            simp only [if_true] at hC
            obtain ⟨k1, t1, c1, k2, t2, c2, t3, c3, rfl⟩ := hC
            obtain ⟨e1, e2, e3, h3⟩ := hX.2.1
            obtain rfl : m = 3 := e1
            obtain ⟨g1, o1, rfl, ht1, x0, x1, ⟨a2, n2, c2', x2, _⟩, y0, y1, ⟨a3, n3, c3', y2, _⟩, z0, z1, _⟩ := h3 (by decide)
            have hcap := e2.1
            clear hX h3 ht1
            go_wp2
            go_ret
            exact ⟨rfl, unhide hb9⟩
          | succ g' =>
            have hlz2 : (j : Int) < i := by omega
            obtain ⟨rfl, k1, t1, c1, k2, t2, c2, k3, t3, c3, rfl, hC1⟩ := hC
            obtain ⟨hN, hS, hB, hge⟩ := id hX
            obtain ⟨e1, e2, e3, h3⟩ := hS
            obtain rfl : m = 3 := e1
            obtain ⟨g1, o1, rfl, ht1, x0, x1, ⟨a2, n2, c2', x2, _⟩, y0, y1, ⟨a3, n3, c3', y2, _⟩, z0, z1, ⟨a4, n4, c4, z2, hs3⟩, _⟩ := h3 (by decide)
            have f0 := hN.frozen 0
            have f1 := hN.frozen 1
            have f2 := hN.frozen 2
            have hX2 := hide (hX.set (k' := k3) (t' := t3) (a' := a4) (m' := n4) (c' := c4) (f' := c3) hs3)
            have hcap := e2.1
            clear hX hN hB h3 ht1 hs3
            go_wp2
            go_roundg g'
            case measure => omega
            case rel => exact ⟨j + 1, k3, t3, a4, n4, c4, c3, by go_num, by omega, unhide hX2, hC1⟩
      | false =>
        have hE : (⟨#[112, 97, 99, 107, 97, 103, 101, 32, 112, 10, 102, 117, 110, 99, 32, 102, 40, 41, 32, 123, 32]⟩ : ByteArray) ++ bs (elA i) ++ ⟨#[32, 125]⟩ = elT i false := by
          show bs [112, 97, 99, 107, 97, 103, 101, 32, 112, 10, 102, 117, 110, 99, 32, 102, 40, 41, 32, 123, 32] ++ bs (elA i) ++ bs [32, 125] = _
          simp only [bs_app]
          rfl
        go_wp2_with fail
        refine (unhide HT _).mono ?_
        rintro e W4 ⟨a, m, c, v, rfl, ⟨t1, c1, t2, k3, t3, k, t, x, hs4, hC4⟩, hb4⟩
        have hbx := below_alloc W4 (.cells #[.int .i64 1, .int .i64 0, .slice a m c] 26 (0, 0))
        have hB := (unhide hb1).trans ((hb4.trans (hbx.mono hb4.size)).mono (unhide hb1).size)
        obtain ⟨q0, q1, q2⟩ := (nblk_new W4 1 0 a m c).box
        obtain ⟨e1, e2, e3, h3⟩ := hs4.below hbx
        obtain rfl : m = 2 := e1
        obtain ⟨g1, o1, rfl, ht1, x0, x1, ⟨a2, n2, c2, x2, _⟩, y0, y1, ⟨a3, n3, c3', y2, f4, f5, f6, h5⟩, _⟩ := h3 (by decide)
        obtain rfl : n3 = 1 := f4
        obtain ⟨g2, o2, rfl, ht2, u0, u1, ⟨a4, n4, c4, u2, f7, f8, f9, h6⟩, _⟩ := h5 (by decide)
        obtain rfl : n4 = 1 := f7
        obtain ⟨g3, o3, rfl, ht3, v0, v1, ⟨a5, n5, c5, v2, hs5⟩, _⟩ := h6 (by decide)
        have hcap1 := e2.1
        have hcap2 := f5.1
        have hcap3 := f8.1
        obtain ⟨W5, hW5⟩ : ∃ W5, W4.alloc (.cells #[.int .i64 1, .int .i64 0, .slice (some ⟨g1, o1, none⟩) 2 c] 26 (0, 0)) = W5 := ⟨_, rfl⟩
        rw [hW5] at q0 q1 q2 x0 x1 x2 y0 y1 y2 u0 u1 u2 v0 v1 v2 hs5 hB
        obtain ⟨gb0, hgb0⟩ : ∃ gb0, W4.heap.size = gb0 := ⟨_, rfl⟩
        rw [hgb0] at q0 q1 q2
        have hX := boxX_new (P := fun y => wr.heap.size ≤ y) (k := k) (t := t) hs5 hB
        obtain ⟨gb, hgb⟩ : ∃ gb, W5.heap.size = gb := ⟨_, rfl⟩
        obtain ⟨W6, hW6⟩ : ∃ W6, W5.alloc (.cells #[.int .i64 k, .int .i64 t, .slice a5 n5 c5] 26 (0, 0)) = W6 := ⟨_, rfl⟩
        rw [hgb, hW6] at hX
        replace hX := hide hX
        clear hs4 hb4 hbx hB h3 h5 h6 ht1 ht2 ht3 HT hb1 hs5 hE
        go_wp2
        clear hW5 hgb hW6 hgb0 q0 q1 q2 x0 x1 x2 y0 y1 y2 u0 u1 u2 v0 v1 v2
        go_loopg [12] i (fun gf s12 wx => ∃ j : Nat, ∃ (k t : Int) (a : Option Addr) (m c : Nat) (f : F), s12 = .int .i64 j ∧ j + gf = i ∧ BoxX w wx gb k t a m c f ∧ elC false gf k f)
        case atStart => exact ⟨0, k, t, a5, n5, c5, x, rfl, by omega, unhide hX, hC4⟩
        case round =>
          clear hX hC4
          obtain ⟨j, k, t, a, m, c, f, rfl, hjg, hX, hC⟩ := hrel
          obtain ⟨p0, p1, p2⟩ := hX.1.box
          cases gk with
          | zero =>
            obtain rfl : j = i := by omega
            have hb9 := hide hX.2.2.1
            obtain ⟨rfl, hC⟩ := hC
            simp only [Bool.false_eq_true, if_false] at hC
            have e1 := hX.2.1.1
            obtain rfl : m = 2 := by rw [e1, hC]
            clear hX e1
            go_wp2
            go_ret
            exact ⟨rfl, unhide hb9⟩
          | succ g' =>
            have hlz2 : (j : Int) < i := by omega
            obtain ⟨rfl, k1, t1, c1, k2, t2, c2, k3, t3, c3, rfl, hC1⟩ := hC
            obtain ⟨hN, hS, hB, hge⟩ := id hX
            obtain ⟨e1, e2, e3, h3⟩ := hS
            obtain rfl : m = 3 := e1
            obtain ⟨g1, o1, rfl, ht1, x0, x1, ⟨a2, n2, c2', x2, _⟩, y0, y1, ⟨a3, n3, c3', y2, _⟩, z0, z1, ⟨a4, n4, c4, z2, hs3⟩, _⟩ := h3 (by decide)
            have f0 := hN.frozen 0
            have f1 := hN.frozen 1
            have f2 := hN.frozen 2
            have hX2 := hide (hX.set (k' := k3) (t' := t3) (a' := a4) (m' := n4) (c' := c4) (f' := c3) hs3)
            have hcap := e2.1
            clear hX hN hB h3 ht1 hs3
            go_wp2
            go_roundg g'
            case measure => omega
            case rel => exact ⟨j + 1, k3, t3, a4, n4, c4, c3, by go_num, by omega, unhide hX2, hC1⟩
end Go.Proofs.Ytdjjbdmnjegfjaa

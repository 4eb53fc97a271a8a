/-
  ParseTail's walk.
-/
import Derived.Test.YtdjjbdmnjegfjaaMPcTail
import Derived.Test.YtdjjbdmnjegfjaaMPaBoxX
import Derived.Test.YtdjjbdmnjegfjaaB23
import Derived.Test.YtdjjbdmnjegfjaaMBoolArg
namespace Go.Proofs.Ytdjjbdmnjegfjaa
open Go.RowKit Go.Lib Go.Sort
set_option linter.unusedSimpArgs false
set_option linter.unusedVariables false
set_option maxRecDepth 100000
/-- The law's text. -/
def tlA (un : Bool) (l : List Bool) : List UInt8 := (if un then [45, 97] else [97]) ++ txts (tlsP l)
def unP (un : Bool) : List Pc := if un then [.op [45]] else []
theorem tlA_txts (un : Bool) (l : List Bool) : tlA un l = txts (unP un ++ .wd [97] :: tlsP l) := by
  cases un <;> rfl
theorem tlA_len (un : Bool) (l : List Bool) : (tlA un l).length ≤ 2 + 3 * l.length := by
  have := tlsP_len l
  have h : (if un then [45, 97] else [97] : List UInt8).length ≤ 2 := by cases un <;> decide
  rw [tlA, List.length_append]
  omega
theorem tlsK_last : ∀ l : List Bool, ∃ K t, (1, bs [97]) :: tlsK l = K ++ [t] ∧ endK t = true := by
  intro l
  suffices h : ∀ (l : List Bool) (t0 : KS), endK t0 = true → ∃ K t, t0 :: tlsK l = K ++ [t] ∧ endK t = true from h l _ rfl
  intro l
  induction l with
  | nil => intro t0 h0; exact ⟨[], t0, rfl, h0⟩
  | cons b l ih =>
    intro t0 h0
    cases b with
    | true =>
      obtain ⟨K, t, h, ht⟩ := ih (1, bs [98]) rfl
      refine ⟨t0 :: (4, bs [46]) :: K, t, ?_, ht⟩
      show t0 :: (4, bs [46]) :: (1, bs [98]) :: tlsK l = _
      rw [h]
      rfl
    | false =>
      obtain ⟨K, t, h, ht⟩ := ih (4, bs [41]) rfl
      refine ⟨t0 :: (4, bs [40]) :: (2, bs [49]) :: K, t, ?_, ht⟩
      show t0 :: (4, bs [40]) :: (2, bs [49]) :: (4, bs [41]) :: tlsK l = _
      rw [h]
      rfl
/-- What expr answers. -/
theorem tl_expr (un : Bool) (l : List Bool) (hl : l.length ≤ 30) (w : World) : Calls Try.prog 9 #[.string (bs (tlA un l))] w fun e w' => ∃ (a : Option Addr) (m c : Nat) (v : Value) (k t : Int) (f : F), e = .returned (.tuple #[.agg #[.int .i64 k, .int .i64 t, .slice a m c], v, .bool true]) ∧ SlQ (fun y => w.heap.size ≤ y) w' a m c f ∧ tlX un l k f ∧ Below w.heap.size w w' := by
  have hlen := tlA_len un l
  obtain ⟨K, t, hK, ht⟩ := tlsK_last l
  have hkps : kps (unP un ++ .wd [97] :: tlsP l) = unK un ++ (1, bs [97]) :: tlsK l := by
    rw [kps_app, kps, tlsP_kps]
    cases un <;> rfl
  have ho : okR [10] (unP un ++ .wd [97] :: tlsP l) = true := by
    have h1 : ∀ q, (Pc.wd [97]).okP (46 :: q) = true := fun q => by kernel_rfl
    have h2 : ∀ q, (Pc.wd [97]).okP (40 :: q) = true := fun q => by kernel_rfl
    have h3 : ∀ q, (Pc.wd [97]).okP (10 :: q) = true := fun q => by kernel_rfl
    have h4 : okR [10] (.wd [97] :: tlsP l) = true := by
      rw [okR, tlsP_ok, Bool.and_true]
      obtain ⟨q, h | h | h⟩ := tls_head l <;> rw [h]
      · exact h1 q
      · exact h2 q
      · exact h3 q
    rw [okR_app, h4, Bool.and_true]
    have h5 : ∀ q, okR (97 :: q) (unP un) = true := fun q => by cases un <;> kernel_rfl
    exact h5 _
  obtain ⟨s1, s2⟩ := scan_expr (unP un ++ .wd [97] :: tlsP l) t (unK un ++ K) (by rw [hkps, hK, List.append_assoc]) ht (by
    exact noNl_app _ _ (by cases un <;> rfl) (tlsP_noNl l)) ho (by
    rw [List.all_append, List.all_cons, tlsP_plain l]
    cases un <;> rfl) (by rw [← tlA_txts]; omega)
  rw [← tlA_txts] at s1 s2
  rw [hkps] at s2
  generalize hR : scanA (exT (tlA un l)) = R at s1 s2
  have hat : At R.1 0 (headE ++ (unK un ++ (1, bs [97]) :: (tlsK l ++ semE))) := by
    have : At R.1 0 (headE ++ ((unK un ++ (1, bs [97]) :: tlsK l) ++ semE)) := s2
    simpa only [List.append_assoc, List.cons_append] using this
  obtain ⟨y, hy, hC⟩ := tail_abs un l R.1 7 100 hat.skip (by omega)
  have hj : At R.1 (7 + (unK un).length + 1 + (tlsK l).length) semE := (((hat.skip (A := headE)).skip (A := unK un)).next).skip
  have hfil := file_expr (f := 99) hat hy hj
  have hl2 := hj.len (Nat.le_of_lt hj.lt)
  have hul : (unK un).length ≤ 1 := by cases un <;> decide
  have htl : ∀ l : List Bool, (tlsK l).length ≤ 3 * l.length := by
    intro l
    induction l with
    | nil => simp [tlsK]
    | cons b l ih =>
      have : (tlK b).length ≤ 3 := by cases b <;> decide
      rw [tlsK, List.length_append, List.length_cons]
      omega
  have := htl l
  refine (plExpr_of (tlA un l) w (by omega) (f := 101) (by omega) _ _ (by rw [hR, hl2]; simp [semE]; omega) (by rw [hR]; exact s1) (by rw [hR]; exact hfil) (by rw [hR, hl2]; simp [semE])).mono ?_
  rintro e w' ⟨a, m, c, v, rfl, hs, hT, hb⟩
  exact ⟨a, m, c, v, _, _, _, rfl, hs, hC, hb⟩
theorem bools_of : ∀ L : List Value, (∀ x ∈ L, ∃ b, x = .bool b) → ∃ l : List Bool, L = l.map Value.bool
  | [], _ => ⟨[], rfl⟩
  | x :: L, h => by
    obtain ⟨b, rfl⟩ := h x (by simp)
    obtain ⟨l, rfl⟩ := bools_of L (fun y hy => h y (by simp [hy]))
    exact ⟨b :: l, rfl⟩
theorem take_snoc (l : List Bool) {i : Nat} (hi : i < l.length) : l.take (i + 1) = l.take i ++ [l.getD i false] := by
  rw [List.take_add_one, List.getElem?_eq_getElem hi]
  simp [List.getD, hi]
theorem tlA_snoc (un : Bool) (l : List Bool) {i : Nat} (hi : i < l.length) : tlA un (l.take (i + 1)) = tlA un (l.take i) ++ txts (tlP (l.getD i false)) := by
  rw [take_snoc l hi, tlA, tlA, tlsP_snoc, txts_app, List.append_assoc]
set_option maxHeartbeats 8000000 in
theorem parseTail_shell (a0 : Value) (L0 : List Value) (a1 : Bool) (w : World) (w0 : Row1 w a0 L0 ∧ ∀ x ∈ L0, ∃ b, x = .bool b) :
    Calls Try.prog 5 #[a0, .bool a1] w fun e w' => e = .returned (.bool true) ∧ Below w.heap.size w w' := by
  obtain ⟨hrow, hall⟩ := w0
  obtain ⟨l, rfl⟩ := bools_of L0 hall
  clear hall
  obtain ⟨al, cl, rfl, hc1, hc2, hc3⟩ := hrow
  rw [List.length_map] at hc1 hc3 ⊢
  unfold maxLen at hc2
  -- the slice's cells, in whatever world in which nothing of w is another
  have hcell : 0 < l.length → ∃ b off, al = some ⟨b, off, none⟩ ∧ ∀ (W : World), Below w.heap.size w W → ∀ i, i < l.length → W.cell? ⟨b, off + i, none⟩ = some (.bool (l.getD i false)) := fun h0 => by
    obtain ⟨b, off, e, hb, hc⟩ := hc3 h0
    refine ⟨b, off, e, fun W hW i hi => ?_⟩
    rw [hW.cell (by exact hb), hc i hi]
    simp [List.getD, hi]
  clear hc3
  have HB := fun w => plBegun_any w
  have hstep : ∀ i, i < l.length → ∀ b, l.getD i false = b → bs (tlA a1 (l.take i)) ++ bs (txts (tlP b)) = bs (tlA a1 (l.take (i + 1))) := fun i hi b hb => by rw [bs_app, tlA_snoc a1 l hi, hb]
  have hsz : ∀ i, i ≤ 30 → (bs (tlA a1 (l.take i))).size ≤ 100 := fun i hi => by
    have := tlA_len a1 (l.take i)
    have h2 : (l.take i).length ≤ i := List.length_take_le _ _
    rw [bs_size]
    omega
  obtain ⟨m, hm⟩ : ∃ m, min 30 l.length = m := ⟨_, rfl⟩
  have hml : m ≤ l.length := by omega
  have hm30 : m ≤ 30 := by omega
  have HE := fun w => tl_expr a1 (l.take m) (by rw [List.length_take]; omega) w
  obtain ⟨len, hlen⟩ : ∃ len, l.length = len := ⟨_, rfl⟩
  rw [hlen] at hm hml hcell hstep hc1 ⊢
  replace HB := hide HB
  replace HE := hide HE
  replace hcell := hide hcell
  replace hstep := hide hstep
  replace hlen := hide hlen
  cases a1 with
  | true =>
    go_enter Try.func5, Try.ntmps5
    go_wp2_with fail
    refine (unhide HB _).mono ?_
    rintro e W1 ⟨rfl, hb1⟩
    clear HB
    replace hb1 := hide hb1
    go_wp2
    go_loopg [6, 7] m (fun gf s6 s7 wx => ∃ i : Nat, s6 = .string (bs (tlA true (l.take i))) ∧ s7 = .int .i64 i ∧ i + gf = m ∧ wx = W1)
    case atStart => exact ⟨0, rfl, rfl, by omega, rfl⟩
    case round =>
      obtain ⟨i, rfl, rfl, hig, rfl⟩ := hrel
      by_cases hlt : i < m
      · have hl1 : (i : Int) < len := by omega
        have hl2 : (i : Int) < 30 := by omega
        obtain ⟨g', rfl⟩ : ∃ g', gk = g' + 1 := ⟨gk - 1, by omega⟩
        have hz := hsz i (by omega)
        obtain ⟨b, off, rfl, hcl⟩ := unhide hcell (by omega)
        have hcx := hcl _ (unhide hb1) i (by omega)
        clear hcl
        cases hbi : l.getD i false with
        | true =>
          rw [hbi] at hcx
          have hs : bs (tlA true (l.take i)) ++ (⟨#[46, 98]⟩ : ByteArray) = bs (tlA true (l.take (i + 1))) := unhide hstep i (by omega) true hbi
          clear hbi
          go_wp2
          go_roundg g'
          case measure => omega
          case rel => exact ⟨i + 1, by first | rfl | rw [← hs], by go_num, by omega, by trivial⟩
        | false =>
          rw [hbi] at hcx
          have hs : bs (tlA true (l.take i)) ++ (⟨#[40, 49, 41]⟩ : ByteArray) = bs (tlA true (l.take (i + 1))) := unhide hstep i (by omega) false hbi
          clear hbi
          go_wp2
          go_roundg g'
          case measure => omega
          case rel => exact ⟨i + 1, by first | rfl | rw [← hs], by go_num, by omega, by trivial⟩
      · obtain rfl : i = m := by omega
        have hz := hsz i (by omega)
        have hx : (i : Int) < len ∧ (i : Int) < 30 → False := fun h => by omega
        have hend : (i : Int) < len → ¬ (i : Int) < 30 := fun h h' => hx ⟨h, h'⟩
        clear hstep hsz hx
        by_cases hl1 : (i : Int) < len
        · have hl2 := hend hl1
          clear hend
          go_wp2_with fail
          refine (unhide HE _).mono ?_
          rintro e W4 ⟨a, m, c, v, k, t, f, rfl, hs4, hC4, hb4⟩
          have hX := boxX_new (k := k) (t := t) hs4 ((unhide hb1).trans (hb4.mono (unhide hb1).size))
          clear hs4 hb4 HE hb1
          obtain ⟨gb, hgb⟩ : ∃ gb, W4.heap.size = gb := ⟨_, rfl⟩
          obtain ⟨W5, hW5⟩ : ∃ W5, W4.alloc (.cells #[.int .i64 k, .int .i64 t, .slice a m c] 26 (0, 0)) = W5 := ⟨_, rfl⟩
          rw [hgb, hW5] at hX
          obtain ⟨rfl, k1, t1, c1, rfl, hC4⟩ := hC4
          obtain ⟨hN, hS, hB, hge⟩ := id hX
          obtain ⟨e1, e2, e3, h3⟩ := hS
          obtain rfl : m = 1 := e1
          obtain ⟨g1, o1, rfl, ht1, x0, x1, ⟨a2, n2, c2', x2, hs2⟩, _⟩ := h3 (by omega)
          have f0 := hN.frozen 0
          have f1 := hN.frozen 1
          have f2 := hN.frozen 2
          obtain ⟨p0, p1, p2⟩ := hN.box
          have hX2 := hX.set (k' := k1) (t' := t1) (a' := a2) (m' := n2) (c' := c2') (f' := c1) hs2
          have hcap := e2.1
          clear hX hN hB h3 ht1 hs2
          have hX := hide hX2
          clear hX2
          go_wp2
          clear hW5 hgb
          go_loopg [11, 12] i (fun gf s11 s12 wx => ∃ (z k t : Int) (a : Option Addr) (m c : Nat) (f : F), s11 = .int .i64 z ∧ z + 1 = gf ∧ gf ≤ i ∧ BoxX w wx gb k t a m c f ∧ tlC (l.take gf).reverse k f)
          case atStart => exact ⟨_, _, _, _, _, _, _, rfl, by omega, Nat.le_refl _, unhide hX, by first | exact hC4 | (have := hC4; rw [List.take_take, Nat.min_self] at this; exact this)⟩
          case round =>
            clear hX hC4
            obtain ⟨z, k, t, a, m, c, f, rfl, hzg, hgi, hX, hC⟩ := hrel
            obtain ⟨p0, p1, p2⟩ := hX.1.box
            cases gk with
            | zero =>
              obtain rfl : k = 20 := hC
              obtain rfl : z = -1 := by omega
              have hb9 := hide hX.2.2.1
              clear hX
              go_wp2
              go_ret
              exact ⟨rfl, unhide hb9⟩
            | succ g' =>
              obtain rfl : z = (g' : Int) := by omega
              have hz0 : (0 : Int) ≤ (g' : Int) := by omega
              have hzl : (g' : Int) < len := by omega
              obtain ⟨b, off, rfl, hcl⟩ := unhide hcell (by omega)
              have hcx := hcl _ hX.2.2.1 g' (by omega)
              clear hcl
              have hlr : (l.take (g' + 1)).reverse = l.getD g' false :: (l.take g').reverse := by rw [take_snoc l (by have := unhide hlen; omega), List.reverse_append]; rfl
              rw [hlr] at hC
              clear hlr
              cases hbi : l.getD g' false with
              | true =>
                rw [hbi] at hcx hC
                obtain ⟨rfl, k1, t1, c1, x, rfl, hC1⟩ := hC
                simp only [if_true, Bool.false_eq_true, if_false] at p0
                obtain ⟨hN, hS, hB, hge⟩ := id hX
                obtain ⟨e1, e2, e3, h3⟩ := hS
                simp only [F.len] at e1
                have hm1 : ¬ (m : Int) < 1 := by omega
                have hm0 : (0 : Int) < m := by omega
                obtain ⟨g1, o1, rfl, ht1, x0, x1, ⟨a2, n2, c2', x2, hs2⟩, _⟩ := h3 (by omega)
                have f0 := hN.frozen 0
                have f1 := hN.frozen 1
                have f2 := hN.frozen 2
                have hX2 := hide (hX.set (k' := k1) (t' := t1) (a' := a2) (m' := n2) (c' := c2') (f' := c1) hs2)
                have hcap := e2.1
                clear hX hN hB h3 ht1 hs2 hbi e1
                go_wp2
                go_roundg g'
                case measure => omega
                case rel => exact ⟨_, k1, t1, a2, n2, c2', c1, rfl, by omega, by omega, unhide hX2, hC1⟩
              | false =>
                rw [hbi] at hcx hC
                obtain ⟨rfl, k1, t1, c1, x, rfl, hC1⟩ := hC
                simp only [if_true, Bool.false_eq_true, if_false] at p0
                obtain ⟨hN, hS, hB, hge⟩ := id hX
                obtain ⟨e1, e2, e3, h3⟩ := hS
                simp only [F.len] at e1
                have hm1 : ¬ (m : Int) < 1 := by omega
                have hm0 : (0 : Int) < m := by omega
                obtain ⟨g1, o1, rfl, ht1, x0, x1, ⟨a2, n2, c2', x2, hs2⟩, _⟩ := h3 (by omega)
                have f0 := hN.frozen 0
                have f1 := hN.frozen 1
                have f2 := hN.frozen 2
                have hX2 := hide (hX.set (k' := k1) (t' := t1) (a' := a2) (m' := n2) (c' := c2') (f' := c1) hs2)
                have hcap := e2.1
                clear hX hN hB h3 ht1 hs2 hbi e1
                go_wp2
                go_roundg g'
                case measure => omega
                case rel => exact ⟨_, k1, t1, a2, n2, c2', c1, rfl, by omega, by omega, unhide hX2, hC1⟩
        · clear hend
          go_wp2_with fail
          refine (unhide HE _).mono ?_
          rintro e W4 ⟨a, m, c, v, k, t, f, rfl, hs4, hC4, hb4⟩
          have hX := boxX_new (k := k) (t := t) hs4 ((unhide hb1).trans (hb4.mono (unhide hb1).size))
          clear hs4 hb4 HE hb1
          obtain ⟨gb, hgb⟩ : ∃ gb, W4.heap.size = gb := ⟨_, rfl⟩
          obtain ⟨W5, hW5⟩ : ∃ W5, W4.alloc (.cells #[.int .i64 k, .int .i64 t, .slice a m c] 26 (0, 0)) = W5 := ⟨_, rfl⟩
          rw [hgb, hW5] at hX
          obtain ⟨rfl, k1, t1, c1, rfl, hC4⟩ := hC4
          obtain ⟨hN, hS, hB, hge⟩ := id hX
          obtain ⟨e1, e2, e3, h3⟩ := hS
          obtain rfl : m = 1 := e1
          obtain ⟨g1, o1, rfl, ht1, x0, x1, ⟨a2, n2, c2', x2, hs2⟩, _⟩ := h3 (by omega)
          have f0 := hN.frozen 0
          have f1 := hN.frozen 1
          have f2 := hN.frozen 2
          obtain ⟨p0, p1, p2⟩ := hN.box
          have hX2 := hX.set (k' := k1) (t' := t1) (a' := a2) (m' := n2) (c' := c2') (f' := c1) hs2
          have hcap := e2.1
          clear hX hN hB h3 ht1 hs2
          have hX := hide hX2
          clear hX2
          go_wp2
          clear hW5 hgb
          go_loopg [11, 12] i (fun gf s11 s12 wx => ∃ (z k t : Int) (a : Option Addr) (m c : Nat) (f : F), s11 = .int .i64 z ∧ z + 1 = gf ∧ gf ≤ i ∧ BoxX w wx gb k t a m c f ∧ tlC (l.take gf).reverse k f)
          case atStart => exact ⟨_, _, _, _, _, _, _, rfl, by omega, Nat.le_refl _, unhide hX, by first | exact hC4 | (have := hC4; rw [List.take_take, Nat.min_self] at this; exact this)⟩
          case round =>
            clear hX hC4
            obtain ⟨z, k, t, a, m, c, f, rfl, hzg, hgi, hX, hC⟩ := hrel
            obtain ⟨p0, p1, p2⟩ := hX.1.box
            cases gk with
            | zero =>
              obtain rfl : k = 20 := hC
              obtain rfl : z = -1 := by omega
              have hb9 := hide hX.2.2.1
              clear hX
              go_wp2
              go_ret
              exact ⟨rfl, unhide hb9⟩
            | succ g' =>
              obtain rfl : z = (g' : Int) := by omega
              have hz0 : (0 : Int) ≤ (g' : Int) := by omega
              have hzl : (g' : Int) < len := by omega
              obtain ⟨b, off, rfl, hcl⟩ := unhide hcell (by omega)
              have hcx := hcl _ hX.2.2.1 g' (by omega)
              clear hcl
              have hlr : (l.take (g' + 1)).reverse = l.getD g' false :: (l.take g').reverse := by rw [take_snoc l (by have := unhide hlen; omega), List.reverse_append]; rfl
              rw [hlr] at hC
              clear hlr
              cases hbi : l.getD g' false with
              | true =>
                rw [hbi] at hcx hC
                obtain ⟨rfl, k1, t1, c1, x, rfl, hC1⟩ := hC
                simp only [if_true, Bool.false_eq_true, if_false] at p0
                obtain ⟨hN, hS, hB, hge⟩ := id hX
                obtain ⟨e1, e2, e3, h3⟩ := hS
                simp only [F.len] at e1
                have hm1 : ¬ (m : Int) < 1 := by omega
                have hm0 : (0 : Int) < m := by omega
                obtain ⟨g1, o1, rfl, ht1, x0, x1, ⟨a2, n2, c2', x2, hs2⟩, _⟩ := h3 (by omega)
                have f0 := hN.frozen 0
                have f1 := hN.frozen 1
                have f2 := hN.frozen 2
                have hX2 := hide (hX.set (k' := k1) (t' := t1) (a' := a2) (m' := n2) (c' := c2') (f' := c1) hs2)
                have hcap := e2.1
                clear hX hN hB h3 ht1 hs2 hbi e1
                go_wp2
                go_roundg g'
                case measure => omega
                case rel => exact ⟨_, k1, t1, a2, n2, c2', c1, rfl, by omega, by omega, unhide hX2, hC1⟩
              | false =>
                rw [hbi] at hcx hC
                obtain ⟨rfl, k1, t1, c1, x, rfl, hC1⟩ := hC
                simp only [if_true, Bool.false_eq_true, if_false] at p0
                obtain ⟨hN, hS, hB, hge⟩ := id hX
                obtain ⟨e1, e2, e3, h3⟩ := hS
                simp only [F.len] at e1
                have hm1 : ¬ (m : Int) < 1 := by omega
                have hm0 : (0 : Int) < m := by omega
                obtain ⟨g1, o1, rfl, ht1, x0, x1, ⟨a2, n2, c2', x2, hs2⟩, _⟩ := h3 (by omega)
                have f0 := hN.frozen 0
                have f1 := hN.frozen 1
                have f2 := hN.frozen 2
                have hX2 := hide (hX.set (k' := k1) (t' := t1) (a' := a2) (m' := n2) (c' := c2') (f' := c1) hs2)
                have hcap := e2.1
                clear hX hN hB h3 ht1 hs2 hbi e1
                go_wp2
                go_roundg g'
                case measure => omega
                case rel => exact ⟨_, k1, t1, a2, n2, c2', c1, rfl, by omega, by omega, unhide hX2, hC1⟩
  | false =>
    go_enter Try.func5, Try.ntmps5
    go_wp2_with fail
    refine (unhide HB _).mono ?_
    rintro e W1 ⟨rfl, hb1⟩
    clear HB
    replace hb1 := hide hb1
    go_wp2
    go_loopg [6, 7] m (fun gf s6 s7 wx => ∃ i : Nat, s6 = .string (bs (tlA false (l.take i))) ∧ s7 = .int .i64 i ∧ i + gf = m ∧ wx = W1)
    case atStart => exact ⟨0, rfl, rfl, by omega, rfl⟩
    case round =>
      obtain ⟨i, rfl, rfl, hig, rfl⟩ := hrel
      by_cases hlt : i < m
      · have hl1 : (i : Int) < len := by omega
        have hl2 : (i : Int) < 30 := by omega
        obtain ⟨g', rfl⟩ : ∃ g', gk = g' + 1 := ⟨gk - 1, by omega⟩
        have hz := hsz i (by omega)
        obtain ⟨b, off, rfl, hcl⟩ := unhide hcell (by omega)
        have hcx := hcl _ (unhide hb1) i (by omega)
        clear hcl
        cases hbi : l.getD i false with
        | true =>
          rw [hbi] at hcx
          have hs : bs (tlA false (l.take i)) ++ (⟨#[46, 98]⟩ : ByteArray) = bs (tlA false (l.take (i + 1))) := unhide hstep i (by omega) true hbi
          clear hbi
          go_wp2
          go_roundg g'
          case measure => omega
          case rel => exact ⟨i + 1, by first | rfl | rw [← hs], by go_num, by omega, by trivial⟩
        | false =>
          rw [hbi] at hcx
          have hs : bs (tlA false (l.take i)) ++ (⟨#[40, 49, 41]⟩ : ByteArray) = bs (tlA false (l.take (i + 1))) := unhide hstep i (by omega) false hbi
          clear hbi
          go_wp2
          go_roundg g'
          case measure => omega
          case rel => exact ⟨i + 1, by first | rfl | rw [← hs], by go_num, by omega, by trivial⟩
      · obtain rfl : i = m := by omega
        have hz := hsz i (by omega)
        have hx : (i : Int) < len ∧ (i : Int) < 30 → False := fun h => by omega
        have hend : (i : Int) < len → ¬ (i : Int) < 30 := fun h h' => hx ⟨h, h'⟩
        clear hstep hsz hx
        by_cases hl1 : (i : Int) < len
        · have hl2 := hend hl1
          clear hend
          go_wp2_with fail
          refine (unhide HE _).mono ?_
          rintro e W4 ⟨a, m, c, v, k, t, f, rfl, hs4, hC4, hb4⟩
          have hX := boxX_new (k := k) (t := t) hs4 ((unhide hb1).trans (hb4.mono (unhide hb1).size))
          clear hs4 hb4 HE hb1
          obtain ⟨gb, hgb⟩ : ∃ gb, W4.heap.size = gb := ⟨_, rfl⟩
          obtain ⟨W5, hW5⟩ : ∃ W5, W4.alloc (.cells #[.int .i64 k, .int .i64 t, .slice a m c] 26 (0, 0)) = W5 := ⟨_, rfl⟩
          rw [hgb, hW5] at hX
          replace hX := hide hX
          go_wp2
          clear hW5 hgb
          go_loopg [11, 12] i (fun gf s11 s12 wx => ∃ (z k t : Int) (a : Option Addr) (m c : Nat) (f : F), s11 = .int .i64 z ∧ z + 1 = gf ∧ gf ≤ i ∧ BoxX w wx gb k t a m c f ∧ tlC (l.take gf).reverse k f)
          case atStart => exact ⟨_, _, _, _, _, _, _, rfl, by omega, Nat.le_refl _, unhide hX, by first | exact hC4 | (have := hC4; rw [List.take_take, Nat.min_self] at this; exact this)⟩
          case round =>
            clear hX hC4
            obtain ⟨z, k, t, a, m, c, f, rfl, hzg, hgi, hX, hC⟩ := hrel
            obtain ⟨p0, p1, p2⟩ := hX.1.box
            cases gk with
            | zero =>
              obtain rfl : k = 20 := hC
              obtain rfl : z = -1 := by omega
              have hb9 := hide hX.2.2.1
              clear hX
              go_wp2
              go_ret
              exact ⟨rfl, unhide hb9⟩
            | succ g' =>
              obtain rfl : z = (g' : Int) := by omega
              have hz0 : (0 : Int) ≤ (g' : Int) := by omega
              have hzl : (g' : Int) < len := by omega
              obtain ⟨b, off, rfl, hcl⟩ := unhide hcell (by omega)
              have hcx := hcl _ hX.2.2.1 g' (by omega)
              clear hcl
              have hlr : (l.take (g' + 1)).reverse = l.getD g' false :: (l.take g').reverse := by rw [take_snoc l (by have := unhide hlen; omega), List.reverse_append]; rfl
              rw [hlr] at hC
              clear hlr
              cases hbi : l.getD g' false with
              | true =>
                rw [hbi] at hcx hC
                obtain ⟨rfl, k1, t1, c1, x, rfl, hC1⟩ := hC
                simp only [if_true, Bool.false_eq_true, if_false] at p0
                obtain ⟨hN, hS, hB, hge⟩ := id hX
                obtain ⟨e1, e2, e3, h3⟩ := hS
                simp only [F.len] at e1
                have hm1 : ¬ (m : Int) < 1 := by omega
                have hm0 : (0 : Int) < m := by omega
                obtain ⟨g1, o1, rfl, ht1, x0, x1, ⟨a2, n2, c2', x2, hs2⟩, _⟩ := h3 (by omega)
                have f0 := hN.frozen 0
                have f1 := hN.frozen 1
                have f2 := hN.frozen 2
                have hX2 := hide (hX.set (k' := k1) (t' := t1) (a' := a2) (m' := n2) (c' := c2') (f' := c1) hs2)
                have hcap := e2.1
                clear hX hN hB h3 ht1 hs2 hbi e1
                go_wp2
                go_roundg g'
                case measure => omega
                case rel => exact ⟨_, k1, t1, a2, n2, c2', c1, rfl, by omega, by omega, unhide hX2, hC1⟩
              | false =>
                rw [hbi] at hcx hC
                obtain ⟨rfl, k1, t1, c1, x, rfl, hC1⟩ := hC
                simp only [if_true, Bool.false_eq_true, if_false] at p0
                obtain ⟨hN, hS, hB, hge⟩ := id hX
                obtain ⟨e1, e2, e3, h3⟩ := hS
                simp only [F.len] at e1
                have hm1 : ¬ (m : Int) < 1 := by omega
                have hm0 : (0 : Int) < m := by omega
                obtain ⟨g1, o1, rfl, ht1, x0, x1, ⟨a2, n2, c2', x2, hs2⟩, _⟩ := h3 (by omega)
                have f0 := hN.frozen 0
                have f1 := hN.frozen 1
                have f2 := hN.frozen 2
                have hX2 := hide (hX.set (k' := k1) (t' := t1) (a' := a2) (m' := n2) (c' := c2') (f' := c1) hs2)
                have hcap := e2.1
                clear hX hN hB h3 ht1 hs2 hbi e1
                go_wp2
                go_roundg g'
                case measure => omega
                case rel => exact ⟨_, k1, t1, a2, n2, c2', c1, rfl, by omega, by omega, unhide hX2, hC1⟩
        · clear hend
          go_wp2_with fail
          refine (unhide HE _).mono ?_
          rintro e W4 ⟨a, m, c, v, k, t, f, rfl, hs4, hC4, hb4⟩
          have hX := boxX_new (k := k) (t := t) hs4 ((unhide hb1).trans (hb4.mono (unhide hb1).size))
          clear hs4 hb4 HE hb1
          obtain ⟨gb, hgb⟩ : ∃ gb, W4.heap.size = gb := ⟨_, rfl⟩
          obtain ⟨W5, hW5⟩ : ∃ W5, W4.alloc (.cells #[.int .i64 k, .int .i64 t, .slice a m c] 26 (0, 0)) = W5 := ⟨_, rfl⟩
          rw [hgb, hW5] at hX
          replace hX := hide hX
          go_wp2
          clear hW5 hgb
          go_loopg [11, 12] i (fun gf s11 s12 wx => ∃ (z k t : Int) (a : Option Addr) (m c : Nat) (f : F), s11 = .int .i64 z ∧ z + 1 = gf ∧ gf ≤ i ∧ BoxX w wx gb k t a m c f ∧ tlC (l.take gf).reverse k f)
          case atStart => exact ⟨_, _, _, _, _, _, _, rfl, by omega, Nat.le_refl _, unhide hX, by first | exact hC4 | (have := hC4; rw [List.take_take, Nat.min_self] at this; exact this)⟩
          case round =>
            clear hX hC4
            obtain ⟨z, k, t, a, m, c, f, rfl, hzg, hgi, hX, hC⟩ := hrel
            obtain ⟨p0, p1, p2⟩ := hX.1.box
            cases gk with
            | zero =>
              obtain rfl : k = 20 := hC
              obtain rfl : z = -1 := by omega
              have hb9 := hide hX.2.2.1
              clear hX
              go_wp2
              go_ret
              exact ⟨rfl, unhide hb9⟩
            | succ g' =>
              obtain rfl : z = (g' : Int) := by omega
              have hz0 : (0 : Int) ≤ (g' : Int) := by omega
              have hzl : (g' : Int) < len := by omega
              obtain ⟨b, off, rfl, hcl⟩ := unhide hcell (by omega)
              have hcx := hcl _ hX.2.2.1 g' (by omega)
              clear hcl
              have hlr : (l.take (g' + 1)).reverse = l.getD g' false :: (l.take g').reverse := by rw [take_snoc l (by have := unhide hlen; omega), List.reverse_append]; rfl
              rw [hlr] at hC
              clear hlr
              cases hbi : l.getD g' false with
              | true =>
                rw [hbi] at hcx hC
                obtain ⟨rfl, k1, t1, c1, x, rfl, hC1⟩ := hC
                simp only [if_true, Bool.false_eq_true, if_false] at p0
                obtain ⟨hN, hS, hB, hge⟩ := id hX
                obtain ⟨e1, e2, e3, h3⟩ := hS
                simp only [F.len] at e1
                have hm1 : ¬ (m : Int) < 1 := by omega
                have hm0 : (0 : Int) < m := by omega
                obtain ⟨g1, o1, rfl, ht1, x0, x1, ⟨a2, n2, c2', x2, hs2⟩, _⟩ := h3 (by omega)
                have f0 := hN.frozen 0
                have f1 := hN.frozen 1
                have f2 := hN.frozen 2
                have hX2 := hide (hX.set (k' := k1) (t' := t1) (a' := a2) (m' := n2) (c' := c2') (f' := c1) hs2)
                have hcap := e2.1
                clear hX hN hB h3 ht1 hs2 hbi e1
                go_wp2
                go_roundg g'
                case measure => omega
                case rel => exact ⟨_, k1, t1, a2, n2, c2', c1, rfl, by omega, by omega, unhide hX2, hC1⟩
              | false =>
                rw [hbi] at hcx hC
                obtain ⟨rfl, k1, t1, c1, x, rfl, hC1⟩ := hC
                simp only [if_true, Bool.false_eq_true, if_false] at p0
                obtain ⟨hN, hS, hB, hge⟩ := id hX
                obtain ⟨e1, e2, e3, h3⟩ := hS
                simp only [F.len] at e1
                have hm1 : ¬ (m : Int) < 1 := by omega
                have hm0 : (0 : Int) < m := by omega
                obtain ⟨g1, o1, rfl, ht1, x0, x1, ⟨a2, n2, c2', x2, hs2⟩, _⟩ := h3 (by omega)
                have f0 := hN.frozen 0
                have f1 := hN.frozen 1
                have f2 := hN.frozen 2
                have hX2 := hide (hX.set (k' := k1) (t' := t1) (a' := a2) (m' := n2) (c' := c2') (f' := c1) hs2)
                have hcap := e2.1
                clear hX hN hB h3 ht1 hs2 hbi e1
                go_wp2
                go_roundg g'
                case measure => omega
                case rel => exact ⟨_, k1, t1, a2, n2, c2', c1, rfl, by omega, by omega, unhide hX2, hC1⟩
end Go.Proofs.Ytdjjbdmnjegfjaa

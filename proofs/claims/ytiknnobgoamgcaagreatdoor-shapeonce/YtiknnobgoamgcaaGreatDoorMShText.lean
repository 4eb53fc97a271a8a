/-
  The program's Text of a tree.
-/
import Derived.Test.YtiknnobgoamgcaaGreatDoorMShOpen
import Derived.Test.YtiknnobgoamgcaaGreatDoorB23
import Derived.Test.YtiknnobgoamgcaaGreatDoorMWkRow
import Derived.Test.YtiknnobgoamgcaaGreatDoorB19
import Derived.Deep.DeepCutAuto
namespace Go.Proofs.YtiknnobgoamgcaaGreatDoor
open Go.RowKit Go.Lib Go.Sort
set_option linter.unusedSimpArgs false
set_option linter.unusedVariables false
theorem PilP.others {w w' : World} {g b cap : Nat} {us : List Value} (h : PilP w g cap us) (hk : Lib.OthersKept 5 (some b) w w') (hne : g ≠ b) : PilP w' g cap us := by
  obtain ⟨cur, hg, h1⟩ := h
  exact ⟨cur, hk g _ hg (fun e => hne (Option.some.inj e)) (fun c fz e => by
    simp only [Obj.cells.injEq] at e
    exact absurd e.2.1 (by decide)), h1⟩
/-- What a pile's row is written by leaves a builder as it is. -/
theorem bld_pile {w w' : World} {B b g cap : Nat} {us : List Value} {bs : List Value} (h : Bld w B b bs) (hp : PilP w g cap us) (hk : ∀ x, x < w.heap.size → x ≠ g → w'.heap[x]? = w.heap[x]?) : Bld w' B b bs := by
  obtain ⟨cur, hg, _⟩ := hp
  refine bld_keep h (fun x c t fr hx ht => hk x (Array.getElem?_eq_some_iff.1 hx).1 (fun e => ?_))
  subst e
  rw [hg] at hx
  simp only [Option.some.injEq, Obj.cells.injEq] at hx
  obtain ⟨_, rfl, _⟩ := hx
  rcases ht with ht | ht <;> exact absurd ht (by decide)
theorem shF_le (L : List Tk) (f : F) (fs : List F) : (shF L f).length ≤ (shR L (f :: fs)).length := by simp only [shR, List.length_append]; omega
set_option maxHeartbeats 8000000 in
set_option maxRecDepth 100000 in
theorem wkText_any (k t : Int) (a : Option Addr) (n c : Nat) (f : F) (v : Value) (L : List Tk) (w : World) (hs : Wl w a n c f) (hT : Tows w v L) (hTab : Tab w) (hN : f.size ≤ 1000000) (hlen : (shN L ⟨k, t, f⟩).length ≤ 10000000000) :
    Calls Tryz.prog 10 #[.agg #[.int .i64 k, .int .i64 t, .slice a n c], v] w fun e w' => e = .returned (.string (bs (shN L ⟨k, t, f⟩))) ∧ Below w.heap.size w w' := by
  obtain ⟨total, htot⟩ : ∃ X, shN L ⟨k, t, f⟩ = X := ⟨_, rfl⟩
  rw [htot] at hlen ⊢
  have hst : shO L k t ++ shR L [f] = total := by rw [← htot]; simp [shN, shR]
  have hbA := below_alloc w (.cells #[.int .i64 k, .int .i64 t, .slice a n c] 24 (0, 0))
  have x1 := nblk_new w k t a n c
  have hz1 : (w.alloc (.cells #[.int .i64 k, .int .i64 t, .slice a n c] 24 (0, 0))).heap.size = w.heap.size + 1 := by simp
  obtain ⟨W1, hW1⟩ : ∃ W1, w.alloc (.cells #[.int .i64 k, .int .i64 t, .slice a n c] 24 (0, 0)) = W1 := ⟨_, rfl⟩
  rw [hW1] at hbA x1 hz1
  have hbl0 : Bld (W1.alloc (.cells #[.pointer none, .slice none 0 0] 41 (0, 0))) W1.heap.size W1.heap.size (bc []) := Lib.IsBuilderF.of (Lib.fresh_isBuilder 41 5 W1)
  have hbB := below_alloc W1 (.cells #[.pointer none, .slice none 0 0] 41 (0, 0))
  have x2 := x1.same (hbB.block _ x1.lt)
  have hz2 : (W1.alloc (.cells #[.pointer none, .slice none 0 0] 41 (0, 0))).heap.size = W1.heap.size + 1 := by simp
  obtain ⟨W2, hW2⟩ : ∃ W2, W1.alloc (.cells #[.pointer none, .slice none 0 0] 41 (0, 0)) = W2 := ⟨_, rfl⟩
  rw [hW2] at hbl0 hbB x2 hz2
  obtain ⟨b, hb⟩ : ∃ b, W1.heap.size = b := ⟨_, rfl⟩
  obtain ⟨gn, hgn⟩ : ∃ gn, w.heap.size = gn := ⟨_, rfl⟩
  rw [hb] at hbl0 hbB hz1 hz2
  have hw2 : Below w.heap.size w W2 := hbA.trans (hbB.mono (by omega))
  have hO1 := zH (shOpen_any w b b [] k t a n c v L W2 hT hTab hw2 (by omega) hbl0 (by omega) (by rw [← hst] at hlen; rw [List.length_append] at hlen; simp only [List.length_nil]; omega))
  obtain ⟨p0, p1, p2⟩ := x2.box
  rw [hgn] at p0 p1 p2 x2
  replace x2 := zH x2
  replace hW1 := zH hW1
  replace hW2 := zH hW2
  replace hs := zH hs
  replace hT := zH hT
  replace hTab := zH hTab
  replace hw2 := zH hw2
  replace hst := zH hst
  replace htot := zH htot
  replace hbB := zH hbB
  replace hz1 := And.intro (Nat.le_of_eq hz1) (Nat.le_of_eq hz1.symm)
  replace hz2 := And.intro (Nat.le_of_eq hz2) (Nat.le_of_eq hz2.symm)
  have hgn2 := And.intro (Nat.le_of_eq hgn) (Nat.le_of_eq hgn.symm)
  have hgb := zH (And.intro hb hgn)
  clear hbA x1 hbl0
  go_enter Tryz.func10, Tryz.ntmps10
  go_upto_region 2 with fail
  rw [uH hW1, uH hW2, show gn + 1 = b by omega]
  clear hb hgn
  go_wp2_with fail
  refine (uH hO1).mono ?_
  rintro e W3 ⟨rfl, hbl, hb3, ho3⟩
  rw [List.nil_append] at hbl
  have x3 := (uH x2).same (hb3.block gn (by omega))
  clear p0 p1 p2 hO1
  obtain ⟨p0, p1, p2⟩ := x3.box
  have hz3 := hb3.size
  have hr0 := pilP_new W3 (.slice a n c)
  have hblp : Bld (W3.alloc (.cells #[.slice a n c] 22 (0, 0))) b b (bc (shO L k t)) := hbl.alloc _
  have hb4 := (hb3.trans ((below_alloc W3 (.cells #[.slice a n c] 22 (0, 0))).mono (show b ≤ W3.heap.size by omega)))
  have hmu : mu [f] ≤ 2000001 := by simp only [mu]; omega
  go_upto_region 4 with fail
  obtain ⟨W4, hW4⟩ : ∃ W4, W3.alloc (.cells #[.slice a n c] 22 (0, 0)) = W4 := ⟨_, rfl⟩
  obtain ⟨gp0, hgp0⟩ : ∃ gp0, W3.heap.size = gp0 := ⟨_, rfl⟩
  rw [hW4] at hr0 hblp hb4 ⊢
  rw [hgp0] at hr0 ⊢
  have hgpb : b < gp0 := by omega
  have hz4 : b + 1 ≤ W4.heap.size := by rw [← hW4]; simp; omega
  clear p0 p1 p2 hW4 hgp0 x3 hbl hb3 ho3
  go_loopg [6, 7, 8] (mu [f]) (fun gf s6 s7 s8 wx => ∃ (ts : List Value) (fs : List F) (gp cp m : Nat) (out : List UInt8), s6 = .slice (some ⟨gp, 0, none⟩) m cp ∧ m = fs.length ∧ mu fs ≤ gf ∧ gf ≤ 2000001 ∧ PilP wx gp cp ts.reverse ∧ b < gp ∧ Wtk w ts fs ∧ Bld wx b b (bc out) ∧ out ++ shR L fs = total ∧ Below b W2 wx)
  case atStart => exact ⟨[.slice a n c], [f], gp0, 1, 1, _, rfl, rfl, Nat.le_refl _, hmu, hr0, hgpb, ⟨⟨a, n, c, rfl, uH hs⟩, trivial⟩, hblp, uH hst, hb4⟩
  case round =>
    clear hr0 hblp hb4 hgpb
    obtain ⟨ts, fs, gp, cp, m, out, rfl, hm, hmuf, hgf, hr, hgw, hsk, hblx, hout, hbx⟩ := hrel
    have hzx := hbx.size
    have hol : out.length + (shR L fs).length ≤ 10000000000 := by rw [← List.length_append, hout]; exact hlen
    replace hout := zH hout
    cases fs with
    | nil =>
      obtain rfl : m = 0 := hm
      have hout2 : out = total := by have := uH hout; simpa [shR] using this
      subst hout2
      clear hr hsk
      replace hbx := zH hbx
      replace hblx := zH hblx
      go_wp2_with fail
      refine (Tryz.Builder_String_any_k b b _ _ (uH hblx) (by omega)).mono ?_
      rintro e W9 ⟨rfl, _, hb9, _⟩
      have hfin := zH ((uH hw2).trans (((uH hbx).trans hb9).mono (show w.heap.size ≤ b by omega)))
      clear hb9
      go_wp2
      go_ret
      exact ⟨rfl, uH hfin⟩
    | cons f0 rest =>
      cases ts with
      | nil => exact hsk.elim
      | cons t0 ts =>
        obtain ⟨⟨a1, n1, cap1, rfl, hf1⟩, hst'⟩ := hsk
        have hlt := hst'.len
        obtain ⟨m', hm'⟩ : ∃ m', rest.length = m' := ⟨_, rfl⟩
        rw [hm'] at hlt
        obtain rfl : m = m' + 1 := by rw [hm, List.length_cons, hm']
        clear hm
        have hroom := hr.room
        rw [List.length_reverse, List.length_cons, hlt] at hroom
        have hmlen := mu_len (f0 :: rest)
        rw [List.length_cons, hm'] at hmlen
        unfold maxLen at hroom
        have hlastz : IntKind.i64.wrap (((m' + 1 : Nat) : Int) - 1) = (m' : Int) := by rw [wrapI _ (by omega) (by omega)]; omega
        have hlastz2 : ((m' : Int) + 1) - 1 = m' := by omega
        have hm1 : (0 : Int) < ((m' + 1 : Nat) : Int) := by omega
        have hm1' : (0 : Int) < (m' : Int) + 1 := by omega
        have hcell := hr.cell ts.length (by simp)
        rw [rev_last, hlt] at hcell
        have hfz := hr.frozen m'
        have htake := zH (by have := hr.take ts.length; rw [rev_take] at this; exact this)
        cases f0 with
        | nil =>
          obtain rfl : n1 = 0 := hf1.1
          rw [mu_nil] at hmuf
          obtain ⟨g', rfl⟩ : ∃ g', gk = g' + 1 := ⟨gk - 1, by omega⟩
          have hout2 : Hid (out ++ [41] ++ shR L rest = total) := zH (by rw [← uH hout, shR_nil, List.append_assoc])
          replace hst' := zH hst'
          replace hbx := zH hbx
          clear hf1 hr
          go_wp2_with fail
          refine (bByte_any b b _ 41 _ hblx (by rw [bc_len]; omega) (by omega)).mono ?_
          rintro e W6 ⟨rfl, hbl6, hb6, ho6⟩
          have hr6 := (uH htake).others ho6 (show gp ≠ b by omega)
          have hbl6' : Hid (Bld W6 b b (bc (out ++ [41]))) := zH (by rw [bc_app]; exact hbl6)
          have hb26 := zH ((uH hbx).trans hb6)
          replace hr6 := zH hr6
          clear hbl6 hb6 ho6 hblx
          go_wp2
          go_roundg g'
          case measure => omega
          case rel => exact ⟨ts, rest, gp, cp, m', _, rfl, hm'.symm, by omega, by omega, uH hr6, hgw, uH hst', uH hbl6', uH hout2, uH hb26⟩
        | cons k1 t1 c1 r1 =>
          obtain ⟨e1, ⟨e2, _⟩, e3, h3⟩ := id hf1
          simp only [F.len] at e1
          subst e1
          obtain ⟨g1, o1, rfl, htag, z0, z1, ⟨a2, n2, cap2, z2, hs2⟩, _⟩ := h3 (by omega)
          replace hs2 : Wl w a2 n2 cap2 c1 := hs2
          obtain ⟨_, _, e, _, htl⟩ := hf1.tail
          injection e with e
          injection e with e e'
          subst e e'
          have y0 := z2
          have hmc := mu_cons allA k1 t1 c1 r1 rest
          have hmu1 : mu (c1 :: r1 :: rest) + 1 ≤ gk := by have := hmc; simp only [allA, if_true] at this; omega
          obtain ⟨g', rfl⟩ : ∃ g', gk = g' + 1 := ⟨gk - 1, by omega⟩
          have hmu' : mu (c1 :: r1 :: rest) ≤ g' := by omega
          have hout2 : shR L (.cons k1 t1 c1 r1 :: rest) = [32] ++ shO L k1 t1 ++ shR L (c1 :: r1 :: rest) := shR_cons L k1 t1 c1 r1 rest
          unfold maxLen at e3
          have hr1z : ¬ ((r1.len : Int) + 1 = 0) := by omega
          have hr1n : ¬ (r1.len + 1 = 0) := by omega
          have hr1b : (((r1.len : Int) + 1) == 0) = false := by simpa using hr1z
          clear h3 hf1
          by_cases hcap1 : cap1 = 1
          · subst hcap1
            have hrl : r1.len = 0 := by omega
            have htl' : Wl w (some ⟨g1, o1, none⟩) 0 0 r1 := by have := htl (o1) (.inr rfl); rw [hrl] at this; exact this
            have hrs := hr.set ts.length (.slice (some ⟨g1, o1, none⟩) 0 0)
            rw [rev_set, hlt] at hrs
            have hblk : ∀ x, x ≠ gp → (wr.setCell ⟨gp, m', none⟩ (.slice (some ⟨g1, o1, none⟩) 0 0)).heap[x]? = wr.heap[x]? := fun x hx => Below.heap_setCell _ _ _ x hx
            have hbl5 := bld_pile hblx hr (fun x _ hx => hblk x hx)
            have hb5 : Below b W2 (wr.setCell ⟨gp, m', none⟩ (.slice (some ⟨g1, o1, none⟩) 0 0)) := hbx.setCell (p := ⟨gp, m', none⟩) (show b ≤ gp by omega) _
            have hz5 : b + 1 ≤ (wr.setCell ⟨gp, m', none⟩ (.slice (some ⟨g1, o1, none⟩) 0 0)).heap.size := by simp; omega
            obtain ⟨W5, hW5⟩ : ∃ W5, wr.setCell ⟨gp, m', none⟩ (.slice (some ⟨g1, o1, none⟩) 0 0) = W5 := ⟨_, rfl⟩
            rw [hW5] at hrs hbl5 hb5 hz5
            replace hW5 := zH hW5
            replace hrs := zH hrs
            replace htl := zH htl
            replace htl' := zH htl'
            replace hs2 := zH hs2
            replace hst' := zH hst'
            clear hr hblx hbx hblk
            go_upto_region 11 with fail
            rw [uH hW5]
            clear hW5 hfz hcell
            go_wp2_with fail
            refine (bByte_any b b _ 32 _ hbl5 (by rw [bc_len]; omega) (by omega)).mono ?_
            rintro e W6 ⟨rfl, hbl6, hb6, ho6⟩
            have hbl6' : Bld W6 b b (bc (out ++ [32])) := by rw [bc_app]; exact hbl6
            have hr6 := (uH hrs).others ho6 (by omega)
            have hb26 := hb5.trans hb6
            have hz6 := hb6.size
            have hO7 := zH (shOpen_any w b b (out ++ [32]) k1 t1 a2 n2 cap2 v L W6 (uH hT) (uH hTab) ((uH hw2).trans (hb26.mono (by omega))) (by omega) hbl6' (by omega) (by rw [hout2] at hol; simp only [List.length_append, List.length_cons, List.length_nil] at hol ⊢; omega))
            replace z0 := ((uH hw2).trans (hb26.mono (show w.heap.size ≤ b by omega))).cell (p := ⟨g1, o1, none⟩) htag |>.trans z0
            replace z1 := ((uH hw2).trans (hb26.mono (show w.heap.size ≤ b by omega))).cell (p := ⟨g1, o1 + 1, none⟩) htag |>.trans z1
            replace z2 := ((uH hw2).trans (hb26.mono (show w.heap.size ≤ b by omega))).cell (p := ⟨g1, o1 + 2, none⟩) htag |>.trans z2
            clear hbl5 hbl6 hbl6' hb5 hb6 ho6
            go_wp2_with fail
            refine (uH hO7).mono ?_
            rintro e W7 ⟨rfl, hbl7, hb7, ho7⟩
            have hr7 := hr6.others ho7 (by omega)
            have hb27 := hb26.trans hb7
            have hz7 := hb7.size
            replace y0 := ((uH hw2).trans (hb27.mono (show w.heap.size ≤ b by omega))).cell (p := ⟨g1, o1 + 2, none⟩) htag |>.trans y0
            clear z0 z1 z2 hO7 hr6 hb26 hb7 ho7
            have hl6 : (Value.slice (some ⟨g1, o1, none⟩) 0 0 :: ts).reverse.length = m' + 1 := by rw [List.length_reverse, List.length_cons, hlt]
            have hown6 := hr7.own (base := b) (show b ≤ gp by omega)
            rw [hl6] at hown6
            have hown7 := World.ownsRow.alloc hown6 (.cells #[.slice a2 n2 cap2] 22 (0, 0))
            have hnews : ∀ (j : Nat) (u : Value), [Value.slice a2 n2 cap2][j]? = some u → (W7.alloc (.cells #[.slice a2 n2 cap2] 22 (0, 0))).cell? (Addr.add ⟨W7.heap.size, 0, none⟩ j) = some u := by
              intro j u hj
              match j, hj with
              | 0, hj => simp at hj; subst hj; simp [Addr.add]
            have hblA : Bld (W7.alloc (.cells #[.slice a2 n2 cap2] 22 (0, 0))) b b (bc (out ++ [32] ++ shO L k1 t1)) := hbl7.alloc _
            have hr7A := hr7.same (w' := W7.alloc (.cells #[.slice a2 n2 cap2] 22 (0, 0))) (Below.heap_alloc _ _ _ hr7.lt)
            have hb28 := hb27.trans ((below_alloc W7 (.cells #[.slice a2 n2 cap2] 22 (0, 0))).mono (show b ≤ W7.heap.size by omega))
            have hgp7 := hr7.lt
            replace hown6 := zH hown6
            replace hown7 := zH hown7
            replace hnews := zH hnews
            replace hl6 := zH hl6
            replace hr7A := zH hr7A
            replace hblA := zH hblA
            replace hb28 := zH hb28
            clear hr7 hbl7 hb27
            obtain ⟨i0, hi, hz0, hz1', hz2'⟩ := info_parts Tryz.info22
            have hinf := zH (And.intro hi (And.intro hz0 (And.intro hz1' hz2')))
            clear hi hz0 hz1' hz2'
            go_wp2_with (at_builtin; refine wpList_append_lies _ rfl _ _ 43 rfl b 22 i0 (.slice none 0 0) 1 24 Tryz.underlying43 (uH hinf).1 (uH hinf).2.1 (uH hinf).2.2.1 (uH hinf).2.2.2 rfl (by decide) _ (m' + 1) _ rfl (uH hown7) ⟨W7.heap.size, 0, none⟩ 1 1 [.slice a2 n2 cap2] rfl rfl (uH hnews) ?h1 (by omega) (by unfold maxLen; omega) (by omega) (by simp; omega) _ rfl ?_; case h1 => (intro u hu; rw [List.mem_singleton] at hu; subst hu; rfl))
            intro gq cq W8 hown8 hg8 hat8 hlt8
            obtain ⟨hr8, hl8⟩ := PilP.of hown8
            have hs7 : (W7.alloc (.cells #[.slice a2 n2 cap2] 22 (0, 0))).heap.size = W7.heap.size + 1 := by simp
            have hgq : b < gq := by
              rcases hat8 with h | h
              · have : gq = gp := by simpa [Value.ownBlock] using h.symm
                omega
              · have h : gq = W7.heap.size + 1 := h
                omega
            have hbl8 := zH (bld_pile (uH hblA) (uH hr7A) (w' := W8) (fun x hx hne => hg8.block x hx (fun e => hne (by simpa [Value.ownBlock] using e))))
            have hb8 := zH ((uH hb28).trans ((Below.refl b _).grown hg8 (by rw [hs7]; omega) (fun q hq => by
              have : gp = q := by simpa [Value.ownBlock] using hq
              omega)))
            rw [show ts.reverse ++ [Value.slice (some ⟨g1, o1, none⟩) 0 0, .slice a2 n2 cap2] = (.slice a2 n2 cap2 :: .slice (some ⟨g1, o1, none⟩) 0 0 :: ts).reverse by simp] at hr8
            replace hr8 := zH hr8
            have hst8 : Hid (Wtk w (.slice a2 n2 cap2 :: .slice (some ⟨g1, o1, none⟩) 0 0 :: ts) (c1 :: r1 :: rest)) := zH ⟨⟨_, _, _, rfl, uH hs2⟩, ⟨_, _, _, rfl, uH htl'⟩, uH hst'⟩
            have hm8 : Hid (m' + 1 + 1 = (c1 :: r1 :: rest).length) := zH (by rw [List.length_cons, List.length_cons, hm'])
            have ho8 : Hid (out ++ [32] ++ shO L k1 t1 ++ shR L (c1 :: r1 :: rest) = total) := zH (by rw [← uH hout, shR_cons]; simp only [List.append_assoc])
            clear hown8 hg8 hat8 hl8 hs7
            go_wp2
            go_roundg g'
            case measure => omega
            case rel => exact ⟨_, _, gq, cq, m' + 1 + 1, _, rfl, uH hm8, hmu', by omega, uH hr8, hgq, uH hst8, uH hbl8, uH ho8, uH hb8⟩
          · skip
            have hrl : r1.len = r1.len := rfl
            have htl' : Wl w (some ⟨g1, o1 + 3, none⟩) r1.len (cap1 - 1) r1 := htl (o1 + 3) (.inl rfl)
            have hrs := hr.set ts.length (.slice (some ⟨g1, o1 + 3, none⟩) r1.len (cap1 - 1))
            rw [rev_set, hlt] at hrs
            have hblk : ∀ x, x ≠ gp → (wr.setCell ⟨gp, m', none⟩ (.slice (some ⟨g1, o1 + 3, none⟩) r1.len (cap1 - 1))).heap[x]? = wr.heap[x]? := fun x hx => Below.heap_setCell _ _ _ x hx
            have hbl5 := bld_pile hblx hr (fun x _ hx => hblk x hx)
            have hb5 : Below b W2 (wr.setCell ⟨gp, m', none⟩ (.slice (some ⟨g1, o1 + 3, none⟩) r1.len (cap1 - 1))) := hbx.setCell (p := ⟨gp, m', none⟩) (show b ≤ gp by omega) _
            have hz5 : b + 1 ≤ (wr.setCell ⟨gp, m', none⟩ (.slice (some ⟨g1, o1 + 3, none⟩) r1.len (cap1 - 1))).heap.size := by simp; omega
            obtain ⟨W5, hW5⟩ : ∃ W5, wr.setCell ⟨gp, m', none⟩ (.slice (some ⟨g1, o1 + 3, none⟩) r1.len (cap1 - 1)) = W5 := ⟨_, rfl⟩
            rw [hW5] at hrs hbl5 hb5 hz5
            replace hW5 := zH hW5
            replace hrs := zH hrs
            replace htl := zH htl
            replace htl' := zH htl'
            replace hs2 := zH hs2
            replace hst' := zH hst'
            clear hr hblx hbx hblk
            go_upto_region 11 with fail
            rw [uH hW5]
            clear hW5 hfz hcell
            go_wp2_with fail
            refine (bByte_any b b _ 32 _ hbl5 (by rw [bc_len]; omega) (by omega)).mono ?_
            rintro e W6 ⟨rfl, hbl6, hb6, ho6⟩
            have hbl6' : Bld W6 b b (bc (out ++ [32])) := by rw [bc_app]; exact hbl6
            have hr6 := (uH hrs).others ho6 (by omega)
            have hb26 := hb5.trans hb6
            have hz6 := hb6.size
            have hO7 := zH (shOpen_any w b b (out ++ [32]) k1 t1 a2 n2 cap2 v L W6 (uH hT) (uH hTab) ((uH hw2).trans (hb26.mono (by omega))) (by omega) hbl6' (by omega) (by rw [hout2] at hol; simp only [List.length_append, List.length_cons, List.length_nil] at hol ⊢; omega))
            replace z0 := ((uH hw2).trans (hb26.mono (show w.heap.size ≤ b by omega))).cell (p := ⟨g1, o1, none⟩) htag |>.trans z0
            replace z1 := ((uH hw2).trans (hb26.mono (show w.heap.size ≤ b by omega))).cell (p := ⟨g1, o1 + 1, none⟩) htag |>.trans z1
            replace z2 := ((uH hw2).trans (hb26.mono (show w.heap.size ≤ b by omega))).cell (p := ⟨g1, o1 + 2, none⟩) htag |>.trans z2
            clear hbl5 hbl6 hbl6' hb5 hb6 ho6
            go_wp2_with fail
            refine (uH hO7).mono ?_
            rintro e W7 ⟨rfl, hbl7, hb7, ho7⟩
            have hr7 := hr6.others ho7 (by omega)
            have hb27 := hb26.trans hb7
            have hz7 := hb7.size
            replace y0 := ((uH hw2).trans (hb27.mono (show w.heap.size ≤ b by omega))).cell (p := ⟨g1, o1 + 2, none⟩) htag |>.trans y0
            clear z0 z1 z2 hO7 hr6 hb26 hb7 ho7
            have hl6 : (Value.slice (some ⟨g1, o1 + 3, none⟩) r1.len (cap1 - 1) :: ts).reverse.length = m' + 1 := by rw [List.length_reverse, List.length_cons, hlt]
            have hown6 := hr7.own (base := b) (show b ≤ gp by omega)
            rw [hl6] at hown6
            have hown7 := World.ownsRow.alloc hown6 (.cells #[.slice a2 n2 cap2] 22 (0, 0))
            have hnews : ∀ (j : Nat) (u : Value), [Value.slice a2 n2 cap2][j]? = some u → (W7.alloc (.cells #[.slice a2 n2 cap2] 22 (0, 0))).cell? (Addr.add ⟨W7.heap.size, 0, none⟩ j) = some u := by
              intro j u hj
              match j, hj with
              | 0, hj => simp at hj; subst hj; simp [Addr.add]
            have hblA : Bld (W7.alloc (.cells #[.slice a2 n2 cap2] 22 (0, 0))) b b (bc (out ++ [32] ++ shO L k1 t1)) := hbl7.alloc _
            have hr7A := hr7.same (w' := W7.alloc (.cells #[.slice a2 n2 cap2] 22 (0, 0))) (Below.heap_alloc _ _ _ hr7.lt)
            have hb28 := hb27.trans ((below_alloc W7 (.cells #[.slice a2 n2 cap2] 22 (0, 0))).mono (show b ≤ W7.heap.size by omega))
            have hgp7 := hr7.lt
            replace hown6 := zH hown6
            replace hown7 := zH hown7
            replace hnews := zH hnews
            replace hl6 := zH hl6
            replace hr7A := zH hr7A
            replace hblA := zH hblA
            replace hb28 := zH hb28
            clear hr7 hbl7 hb27
            obtain ⟨i0, hi, hz0, hz1', hz2'⟩ := info_parts Tryz.info22
            have hinf := zH (And.intro hi (And.intro hz0 (And.intro hz1' hz2')))
            clear hi hz0 hz1' hz2'
            go_wp2_with (at_builtin; refine wpList_append_lies _ rfl _ _ 43 rfl b 22 i0 (.slice none 0 0) 1 24 Tryz.underlying43 (uH hinf).1 (uH hinf).2.1 (uH hinf).2.2.1 (uH hinf).2.2.2 rfl (by decide) _ (m' + 1) _ rfl (uH hown7) ⟨W7.heap.size, 0, none⟩ 1 1 [.slice a2 n2 cap2] rfl rfl (uH hnews) ?h1 (by omega) (by unfold maxLen; omega) (by omega) (by simp; omega) _ rfl ?_; case h1 => (intro u hu; rw [List.mem_singleton] at hu; subst hu; rfl))
            intro gq cq W8 hown8 hg8 hat8 hlt8
            obtain ⟨hr8, hl8⟩ := PilP.of hown8
            have hs7 : (W7.alloc (.cells #[.slice a2 n2 cap2] 22 (0, 0))).heap.size = W7.heap.size + 1 := by simp
            have hgq : b < gq := by
              rcases hat8 with h | h
              · have : gq = gp := by simpa [Value.ownBlock] using h.symm
                omega
              · have h : gq = W7.heap.size + 1 := h
                omega
            have hbl8 := zH (bld_pile (uH hblA) (uH hr7A) (w' := W8) (fun x hx hne => hg8.block x hx (fun e => hne (by simpa [Value.ownBlock] using e))))
            have hb8 := zH ((uH hb28).trans ((Below.refl b _).grown hg8 (by rw [hs7]; omega) (fun q hq => by
              have : gp = q := by simpa [Value.ownBlock] using hq
              omega)))
            rw [show ts.reverse ++ [Value.slice (some ⟨g1, o1 + 3, none⟩) r1.len (cap1 - 1), .slice a2 n2 cap2] = (.slice a2 n2 cap2 :: .slice (some ⟨g1, o1 + 3, none⟩) r1.len (cap1 - 1) :: ts).reverse by simp] at hr8
            replace hr8 := zH hr8
            have hst8 : Hid (Wtk w (.slice a2 n2 cap2 :: .slice (some ⟨g1, o1 + 3, none⟩) r1.len (cap1 - 1) :: ts) (c1 :: r1 :: rest)) := zH ⟨⟨_, _, _, rfl, uH hs2⟩, ⟨_, _, _, rfl, uH htl'⟩, uH hst'⟩
            have hm8 : Hid (m' + 1 + 1 = (c1 :: r1 :: rest).length) := zH (by rw [List.length_cons, List.length_cons, hm'])
            have ho8 : Hid (out ++ [32] ++ shO L k1 t1 ++ shR L (c1 :: r1 :: rest) = total) := zH (by rw [← uH hout, shR_cons]; simp only [List.append_assoc])
            clear hown8 hg8 hat8 hl8 hs7
            go_wp2
            go_roundg g'
            case measure => omega
            case rel => exact ⟨_, _, gq, cq, m' + 1 + 1, _, rfl, uH hm8, hmu', by omega, uH hr8, hgq, uH hst8, uH hbl8, uH ho8, uH hb8⟩
theorem shText_any (k t : Int) (a : Option Addr) (n c : Nat) (f : F) (v : Value) (L : List Tk) (w : World) (hs : Sl w a n c f) (hT : Toks w v L) (hTab : Tab w) (hN : f.size ≤ 1000000) (hlen : (shN L ⟨k, t, f⟩).length ≤ 10000000000) :
    Calls Tryz.prog 10 #[.agg #[.int .i64 k, .int .i64 t, .slice a n c], v] w fun e w' => e = .returned (.string (bs (shN L ⟨k, t, f⟩))) ∧ Below w.heap.size w w' := wkText_any k t a n c f v L w hs.wl hT.tows hTab hN hlen
end Go.Proofs.YtiknnobgoamgcaaGreatDoor

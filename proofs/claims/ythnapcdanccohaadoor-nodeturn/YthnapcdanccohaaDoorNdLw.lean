/-
  The law's walk: what it goes through is laid behind what it was given.
-/
import Derived.Test.YthnapcdanccohaaDoorNdFindM
import Derived.Deep.AppendLies
namespace Go.Proofs.YthnapcdanccohaaDoor
open Go.RowKit Go.Lib Go.Sort
set_option linter.unusedSimpArgs false
set_option linter.unusedVariables false
/-- What is gone through, without the depths. -/
def vl (A : Int → Bool) : F → List Nd
  | .nil => []
  | .cons k t c r => ⟨k, t, c⟩ :: ((if A k then vl A c else []) ++ vl A r)
def vlN (A : Int → Bool) (n : Nd) : List Nd := n :: if A n.k then vl A n.c else []
theorem vis_fst (A : Int → Bool) : ∀ (f : F) (d : Nat), (vis A f d).map (·.1) = vl A f
  | .nil, _ => rfl
  | .cons k t c r, d => by
    have h1 := vis_fst A c (d + 1)
    have h2 := vis_fst A r d
    cases h : A k <;> simp [vis, vl, h, h1, h2]
theorem visN_fst (A : Int → Bool) (n : Nd) : (visN A n).map (·.1) = vlN A n := by
  cases h : A n.k <;> simp [visN, vlN, h, vis_fst]
theorem vl_len (A : Int → Bool) : ∀ f : F, (vl A f).length ≤ f.size
  | .nil => Nat.le_refl _
  | .cons k t c r => by
    have h1 := vl_len A c
    have h2 := vl_len A r
    cases h : A k <;> simp [vl, h, F.size] <;> omega
theorem vlN_len (A : Int → Bool) (n : Nd) : (vlN A n).length ≤ n.c.size + 1 := by
  have h1 := vl_len A n.c
  cases h : A n.k <;> simp [vlN, h] <;> omega
theorem F.app_size : ∀ f g : F, (f.app g).size = f.size + g.size
  | .nil, g => by simp [F.app, F.size]
  | .cons k t c r, g => by simp only [F.app, F.size, F.app_size r g]; omega
/-- What is gone through is, all in all, no greater than the square. -/
theorem vl_size (A : Int → Bool) : ∀ (f : F), (F.ofL (vl A f)).size ≤ f.size * (f.size + 1)
  | .nil => Nat.le_refl _
  | .cons k t c r => by
    have h1 := vl_size A c
    have h2 := vl_size A r
    have e : (F.ofL (vl A (.cons k t c r))).size = c.size + 1 + (F.ofL ((if A k then vl A c else []) ++ vl A r)).size := rfl
    rw [e, ofL_app, F.app_size]
    have h3 : (F.ofL (if A k then vl A c else [])).size ≤ c.size * (c.size + 1) := by
      split
      · exact h1
      · exact Nat.zero_le _
    have e2 : (F.cons k t c r).size = c.size + 1 + r.size := rfl
    rw [e2]
    generalize c.size = x at *
    generalize r.size = y at *
    have : (x + 1 + y) * (x + 1 + y + 1) = x * (x + 1) + y * (y + 1) + 2 * (x + 1) * (y + 1) := by
      simp only [Nat.mul_add, Nat.add_mul, Nat.mul_one, Nat.one_mul]
      have := Nat.mul_comm x y
      have := Nat.mul_assoc 2 x y
      omega
    have h4 : x + 1 ≤ 2 * (x + 1) * (y + 1) := Nat.le_trans (by omega) (Nat.le_mul_of_pos_right _ (by omega))
    omega
theorem vlN_size (A : Int → Bool) (n : Nd) (h : n.c.size ≤ 40) : (F.ofL (vlN A n)).size ≤ 100000 := by
  have h1 := vl_size A n.c
  have h2 : n.c.size * (n.c.size + 1) ≤ 40 * 41 := Nat.mul_le_mul h (by omega)
  have e : (F.ofL (vlN A n)).size = n.c.size + 1 + (F.ofL (if A n.k then vl A n.c else [])).size := rfl
  rw [e]
  split
  · omega
  · simp only [F.ofL, F.size]; omega
theorem drop_c_size : ∀ {f : F} {i : Nat} {k t : Int} {c r : F}, f.drop i = .cons k t c r → c.size < f.size
  | .nil, 0, _, _, _, _, h => by cases h
  | .nil, _ + 1, _, _, _, _, h => by cases h
  | .cons k t c r, 0, _, _, _, _, h => by
    simp only [F.drop, F.cons.injEq] at h
    obtain ⟨rfl, rfl, rfl, rfl⟩ := h
    simp only [F.size]; omega
  | .cons k t c r, i + 1, _, _, _, _, h => by
    have := drop_c_size (f := r) (i := i) h
    simp only [F.size]; omega
theorem F.drop_zero (f : F) : f.drop 0 = f := by cases f <;> rfl
theorem BoxN.same {w w' : World} {g : Nat} {k t : Int} {a : Option Addr} {n cap : Nat} (h : BoxN w g k t a n cap) (e : w'.heap[g]? = w.heap[g]?) : BoxN w' g k t a n cap :=
  ⟨(World.cell?_of_block (a := ⟨g, 0, none⟩) e).trans h.1, (World.cell?_of_block (a := ⟨g, 1, none⟩) e).trans h.2.1, (World.cell?_of_block (a := ⟨g, 2, none⟩) e).trans h.2.2⟩
theorem vl_drop (A : Int → Bool) {f : F} {i : Nat} {k t : Int} {c : F} (h : f.drop i = .cons k t c (f.drop (i + 1))) : vl A (f.drop i) = vlN A ⟨k, t, c⟩ ++ vl A (f.drop (i + 1)) := by
  rw [h]
  simp [vl, vlN]
set_option maxHeartbeats 4000000 in
set_option maxRecDepth 100000 in
theorem nlWalk_any (stop : Int) (W0 : World) (B : Nat) (hB0 : W0.heap.size ≤ B) : ∀ (N : Nat) (k t : Int) (a : Option Addr) (n cap : Nat) (c : F) (w : World) (v : Value) (xs : List NV) (L : List Nd), c.size < N → N ≤ 1000000 → Sl W0 a n cap c → Below W0.heap.size W0 w → B ≤ w.heap.size → OwnN w B v xs →
    Reads (fun g => g < W0.heap.size) w xs (F.ofL L) → xs.length + c.size ≤ 2000000 →
    Calls Tryd.prog 18 #[.agg #[.int .i64 k, .int .i64 t, .slice a n cap], .int .i64 stop, v] w fun e w' => ∃ v' xs', e = .returned v' ∧ OwnN w' B v' xs' ∧ Reads (fun g => g < W0.heap.size) w' xs' (F.ofL (L ++ vlN (fun k => k != stop) ⟨k, t, c⟩)) ∧
      Moves (fun g => v.ownBlock = some g) (fun g => v'.ownBlock = some g) w w' := by
  intro N
  induction N with
  | zero => intro k t a n cap c w v xs L hN; omega
  | succ N ih =>
    intro k t a n cap c w v xs L hN hN2 hs hw hBw hown hrd hlen
    replace ih := hide ih
    have vlt : ∀ x, v.ownBlock = some x → B ≤ x ∧ x < w.heap.size := fun x hx => World.ownsRow.lt hown x hx
    have hb := below_alloc w (.cells #[.int .i64 k, .int .i64 t, .slice a n cap] 26 (0, 0))
    have hb3 := below_alloc (w.alloc (.cells #[.int .i64 k, .int .i64 t, .slice a n cap] 26 (0, 0))) (.cells #[.int .i64 k, .int .i64 t, .slice a n cap] 26 (0, 0))
    have hsz : (w.alloc (.cells #[.int .i64 k, .int .i64 t, .slice a n cap] 26 (0, 0))).heap.size = w.heap.size + 1 := by simp
    have hsz3 : ((w.alloc (.cells #[.int .i64 k, .int .i64 t, .slice a n cap] 26 (0, 0))).alloc (.cells #[.int .i64 k, .int .i64 t, .slice a n cap] 26 (0, 0))).heap.size = w.heap.size + 1 + 1 := by simp
    have hb13 : Below w.heap.size w ((w.alloc (.cells #[.int .i64 k, .int .i64 t, .slice a n cap] 26 (0, 0))).alloc (.cells #[.int .i64 k, .int .i64 t, .slice a n cap] 26 (0, 0))) := hb.trans (hb3.mono hb.size)
    have x1 := boxN_new w k t a n cap
    have x3 := x1.below hb3 (by simp)
    have hnews : ∀ (j : Nat) (u : Value), (nvC [⟨k, t, a, n, cap⟩])[j]? = some u → ((w.alloc (.cells #[.int .i64 k, .int .i64 t, .slice a n cap] 26 (0, 0))).alloc (.cells #[.int .i64 k, .int .i64 t, .slice a n cap] 26 (0, 0))).cell? (Addr.add ⟨(w.alloc (.cells #[.int .i64 k, .int .i64 t, .slice a n cap] 26 (0, 0))).heap.size, 0, none⟩ j) = some u := by
      intro j u hj
      rw [show Addr.add ⟨(w.alloc (.cells #[.int .i64 k, .int .i64 t, .slice a n cap] 26 (0, 0))).heap.size, 0, none⟩ j = ⟨(w.alloc (.cells #[.int .i64 k, .int .i64 t, .slice a n cap] 26 (0, 0))).heap.size, j, none⟩ by simp [Addr.add]; omega, World.cell?_alloc_mark, List.getElem?_toArray]
      exact hj
    have hown3 : OwnN ((w.alloc (.cells #[.int .i64 k, .int .i64 t, .slice a n cap] 26 (0, 0))).alloc (.cells #[.int .i64 k, .int .i64 t, .slice a n cap] 26 (0, 0))) B v xs := rowN_kept hown (fun g hg => hb13.block g (vlt g hg).2)
    have hrd3 := hrd.keep (keep_below hb13)
    rw [hsz] at hnews
    have hln : c.len = n := hs.1.symm
    have hle := c.len_le_size
    have hde := c.deep_le_size
    obtain ⟨x10, x11, x12⟩ := x1
    obtain ⟨i0, hi, hz0, hz1, hz2⟩ := info_parts Tryd.info26
    replace x3 := hide x3
    replace hrd3 := hide hrd3
    replace hb13 := hide hb13
    replace hs := hide hs
    replace hw := hide hw
    replace hsz3 := hide hsz3
    replace hown3 := hide hown3
    replace hnews := hide hnews
    clear hown hrd hb hb3 hsz
    go_enter Tryd.func18, Tryd.ntmps18
    go_wp2_with (at_builtin; refine wpList_append_lies _ rfl _ _ 24 rfl B 26 i0 _ 3 40 Tryd.underlying24 hi hz0 hz1 hz2 rfl (by decide) v xs.length (nvC xs) rfl (unhide hown3) ⟨w.heap.size + 1, 0, none⟩ 1 1 (nvC [⟨k, t, a, n, cap⟩]) rfl rfl (unhide hnews) (one_nv _) (by omega) (by unfold maxLen; omega) (by omega) (by have := unhide hsz3; omega) _ (unhide hsz3) ?_)
    intro g cq W4 hown4 hg4 hat4 hlt4
    have b13 := unhide hb13
    have hbz := b13.size
    have hw3 := unhide hsz3
    have hrd3' := unhide hrd3
    have x3' := unhide x3
    clear x10 x11 x12 hnews hown3 hrd3 x3 hb13 hsz3
    generalize (w.alloc (.cells #[.int .i64 k, .int .i64 t, .slice a n cap] 26 (0, 0))).alloc (.cells #[.int .i64 k, .int .i64 t, .slice a n cap] 26 (0, 0)) = W3 at *
    have ho4 : OwnN W4 B (.slice (some ⟨g, 0, none⟩) (xs.length + 1) cq) (xs ++ [⟨k, t, a, n, cap⟩]) := by
      unfold OwnN
      rw [nvC_app, List.length_append]
      exact hown4
    have hM4 : Moves (fun x => v.ownBlock = some x) (fun x => (Value.slice (some ⟨g, 0, none⟩) (xs.length + 1) cq).ownBlock = some x) w W4 := by
      refine ⟨hg4.os.trans b13.os, hg4.tape.trans b13.tape, hg4.output.trans b13.output, Nat.le_trans hbz hg4.size, fun x hx hc => (hg4.block x (by omega) (fun e => hc e.symm)).trans (b13.block x hx), fun x hx => ?_⟩
      have e : g = x := by simpa [Value.ownBlock] using hx
      subst e
      rcases hat4 with h | h
      · exact .inl h
      · exact .inr (by omega)
    have hWw : W0.heap.size ≤ w.heap.size := (unhide hw).size
    have hbW4 : Below W0.heap.size W0 W4 := (unhide hw).trans (hM4.below (fun x hx => by have := vlt x hx; omega) hWw)
    have hsW : SlQ (fun g => g < W0.heap.size) W0 a n cap c := (unhide hs).mono (fun g hg => hg.lt)
    have hrd4 : Reads (fun g => g < W0.heap.size) W4 (xs ++ [⟨k, t, a, n, cap⟩]) (F.ofL (L ++ [⟨k, t, c⟩])) := by
      rw [ofL_app]
      exact (hrd3'.keep (keep_grown hg4 (fun x hx hh => by have := vlt x hx; have := hh.1; omega))).app ⟨rfl, rfl, hsW.below hbW4, trivial⟩
    have hx4 : BoxN W4 w.heap.size k t a n cap := x3'.same (hg4.block _ (by omega) (fun e => by have := vlt _ e.symm; omega))
    have hgg : g ≠ w.heap.size := by
      rcases hat4 with h | h
      · have := vlt g h; omega
      · omega
    have hgbl : w.heap.size < W4.heap.size := by have := hg4.size; omega
    obtain ⟨x10, x11, x12⟩ := hx4
    replace hown4 := hide hown4
    replace ho4 := hide ho4
    replace hrd4 := hide hrd4
    replace hM4 := hide hM4
    replace hbW4 := hide hbW4
    replace hsW := hide hsW
    clear hrd3' x3' b13 hg4 hown4 hw3
    go_wp2
    go_loopg [2, 7] n (fun gf s2 s7 wx => ∃ (v2 : Value) (i : Nat) (xs' : List NV) (L' : List Nd), v2 = s2 ∧ s7 = .int .i64 i ∧ i + gf = n ∧ OwnN wx B s2 xs' ∧ Reads (fun g => g < W0.heap.size) wx xs' (F.ofL L') ∧
      L' ++ (if k != stop then vl (fun k => k != stop) (c.drop i) else []) = L ++ vlN (fun k => k != stop) ⟨k, t, c⟩ ∧ Moves (fun x => v.ownBlock = some x) (fun x => s2.ownBlock = some x) w wx ∧ BoxN wx w.heap.size k t a n cap ∧ s2.ownBlock ≠ some w.heap.size ∧ w.heap.size < wx.heap.size ∧ xs'.length + (c.drop i).size ≤ 2000001)
    case atStart => exact ⟨_, 0, _, _, rfl, rfl, by omega, unhide ho4, unhide hrd4, by rw [F.drop_zero]; simp [vlN], unhide hM4, ⟨x10, x11, x12⟩, (fun e => hgg (by simpa [Value.ownBlock] using e)), hgbl, by rw [F.drop_zero]; simp; omega⟩
    case round =>
      clear x10 x11 x12
      obtain ⟨v2, i, xs', L', rfl, rfl, hig, ho', hr', hL', hM', hx', hne, hgl, hln'⟩ := hrel
      obtain ⟨x10, x11, x12⟩ := hx'
      have vlt' : ∀ x, v2.ownBlock = some x → B ≤ x ∧ x < wr.heap.size := fun x hx => World.ownsRow.lt ho' x hx
      have hbr : Below W0.heap.size W0 wr := (unhide hw).trans (hM'.below (fun x hx => by have := vlt x hx; omega) hWw)
      have hxB : BoxN wr w.heap.size k t a n cap := ⟨x10, x11, x12⟩
      replace hM' := hide hM'
      replace hxB := hide hxB
      by_cases hgo : i < n ∧ ¬ k = stop
      · obtain ⟨hlt, hks⟩ := hgo
        have hkn : (k != stop) = true := by simpa using hks
        have hlz : (i : Int) < n := by omega
        obtain ⟨g', rfl⟩ : ∃ g', gk = g' + 1 := ⟨gk - 1, by omega⟩
        obtain ⟨g1, o1, k1, t1, a1, n1, cap1, c1, rfl, ht1, hd1, z0, z1, z2, hc1⟩ := (unhide hsW).at hlt
        have hg1 := ht1.1
        have y0 := (hbr.cell (p := ⟨g1, o1 + i * 3, none⟩) hg1).trans z0
        have y1 := (hbr.cell (p := ⟨g1, o1 + i * 3 + 1, none⟩) hg1).trans z1
        have y2 := (hbr.cell (p := ⟨g1, o1 + i * 3 + 2, none⟩) hg1).trans z2
        have hds := F.drop_size hd1
        have hdd := hide (vl_drop (fun k => k != stop) hd1)
        have hsd : (c.drop i).size = c1.size + 1 + (c.drop (i + 1)).size := by rw [hd1]; simp only [F.size]
        have hrec := hide (unhide ih k1 t1 a1 n1 cap1 c1 wr v2 xs' L' (by omega) (by omega) hc1.any hbr (by omega) ho' hr' (by omega))
        have hlx : xs'.length = L'.length := by rw [hr'.len, ofL_len]
        clear hd1 hc1 ht1 z0 z1 z2
        replace hL' := hide hL'
        replace hbr := hide hbr
        replace ho' := hide ho'
        replace hr' := hide hr'
        go_wp2_with fail
        refine (unhide hrec).mono ?_
        rintro e W5 ⟨v5, xs5, rfl, ho5, hr5, hM5⟩
        have hlx5 : xs5.length = L'.length + (vlN (fun k => k != stop) ⟨k1, t1, c1⟩).length := by rw [hr5.len, ofL_len, List.length_append]
        have hvl := vlN_len (fun k => k != stop) ⟨k1, t1, c1⟩
        dsimp only at hvl
        have hx5 : BoxN W5 w.heap.size k t (some ⟨g1, o1, none⟩) n cap := (unhide hxB).same (hM5.block _ hgl hne)
        have hne5 : v5.ownBlock ≠ some w.heap.size := fun e => by
          rcases hM5.grows _ e with h | h
          · exact hne h
          · omega
        have hgl5 : w.heap.size < W5.heap.size := by have := hM5.size; omega
        have hL5 : (L' ++ vlN (fun k => k != stop) ⟨k1, t1, c1⟩) ++ (if k != stop then vl (fun k => k != stop) (c.drop (i + 1)) else []) = L ++ vlN (fun k => k != stop) ⟨k, t, c⟩ := by
          rw [← unhide hL', hkn, if_pos rfl, if_pos rfl, unhide hdd, List.append_assoc]
        have hM6 := hide ((unhide hM').trans hM5)
        replace hL5 := hide hL5
        replace hx5 := hide hx5
        replace ho5 := hide ho5
        replace hr5 := hide hr5
        clear hM5 hrec hdd y0 y1 y2 x10 x11 x12
        go_wp2
        all_goals
          go_roundg g'
          case measure => omega
          case rel => exact ⟨v5, i + 1, xs5, _, rfl, by go_num, by omega, unhide ho5, unhide hr5, unhide hL5, unhide hM6, unhide hx5, hne5, hgl5, by omega⟩
      · have hfin : L' = L ++ vlN (fun k => k != stop) ⟨k, t, c⟩ := by
          rw [← hL']
          by_cases hks : k = stop
          · have : (k != stop) = false := by simpa using hks
            rw [this]; simp
          · rw [F.drop_end (by omega)]; simp [vl]
        rw [hfin] at hr'
        clear hfin hL'
        replace hbr := hide hbr
        replace ho' := hide ho'
        replace hr' := hide hr'
        by_cases hlt : i < n
        · have hks : k = stop := by
            rcases Decidable.em (k = stop) with h | h
            · exact h
            · exact absurd ⟨hlt, h⟩ hgo
          have hkn : (k != stop) = false := by simpa using hks
          have hlz : (i : Int) < n := by omega
          replace hks := hide hks
          clear hgo
          go_wp2
          go_ret
          first | exact ⟨v2, xs', rfl, unhide ho', unhide hr', unhide hM'⟩ | exact ⟨v2, rfl, xs', unhide ho', unhide hr', unhide hM'⟩
        · have hlz : ¬ (i : Int) < n := by omega
          clear hgo
          go_wp2
          go_ret
          first | exact ⟨v2, xs', rfl, unhide ho', unhide hr', unhide hM'⟩ | exact ⟨v2, rfl, xs', unhide ho', unhide hr', unhide hM'⟩
end Go.Proofs.YthnapcdanccohaaDoor

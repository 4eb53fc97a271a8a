/-
  TokenAll's walk.
-/
import Derived.Test.YtmapohaobinjjaaTokBlk
import Derived.Test.YtmapohaobinjjaaOrdD
import Derived.Deep.DeepCutAuto
import Derived.Deep.RegionHeld
namespace Go.Proofs.Ytmapohaobinjjaa
open Go.RowKit
set_option linter.unusedSimpArgs false
theorem keep3 {g : Nat} {p a b : Tk} {w0 w w' : World} (hb : Below w.heap.size w w') (h : Box w g p ∧ Box w (g + 1) a ∧ Box w (g + 1 + 1) b ∧ Below g w0 w) : Box w' g p ∧ Box w' (g + 1) a ∧ Box w' (g + 1 + 1) b ∧ Below g w0 w' :=
  ⟨h.1.below hb h.1.lt, h.2.1.below hb h.2.1.lt, h.2.2.1.below hb h.2.2.1.lt, h.2.2.2.trans (hb.mono (Nat.le_of_lt h.1.lt))⟩
set_option maxHeartbeats 4000000 in
set_option maxRecDepth 100000 in
theorem tokenAll_shell (a0 : ByteArray) (t1 t2 t3 : Tk) (w0 : a0.size ≤ maxLen) (w1 : t1.s.size ≤ maxLen) (w2 : t2.s.size ≤ maxLen) (w3 : t3.s.size ≤ maxLen) (w : World) :
    Calls Try.prog 3 #[.string a0, t1.val, t2.val, t3.val] w fun e w' => e = .returned (.bool true) ∧ Below w.heap.size w w' := by
  have HC := fun w => cut_any a0 10 w w0 (by omega)
  have HC1 := fun w => tokCut_any t1 w w1
  have HC2 := fun w => tokCut_any t2 w w2
  have HC3 := fun w => tokCut_any t3 w w3
  have hx := hide (fun W hw => blk3 w t1 t2 t3 W hw)
  generalize cutS a0 10 = s at *
  generalize t1.cut = p at *
  generalize t2.cut = a at *
  generalize t3.cut = b at *
  clear w0 w1 w2 w3
  have H9 := fun w => tOp_any s w
  have H10 := fun w => rOp_any s w
  have H11 := fun w => tRank_any s w
  have H12 := fun w => rRank_any s w
  have H13 := fun w => tUnary_any s w
  have H14 := fun w => tEnds_any a w
  have H15 := fun w => rEnds_any a w
  have H16 := fun w => tEq_any a b w
  have H17 := fun w => tSpace_any p a b w
  have H18 := fun w => rSpace_any p a b w
  have hu : isUn s = ((s.toList == [45]) || (s.toList == [33])) := by rw [isUn, ← eqT_list, ← eqT_list]
  have hd : eqB a b = ((a.k == b.k) && (a.s.toList == b.s.toList)) := by rw [eqB, ← eqT_text]; rfl
  obtain ⟨m, hm⟩ : ∃ m, (s.toList == [45]) = m := ⟨_, rfl⟩
  obtain ⟨n, hn⟩ : ∃ n, (s.toList == [33]) = n := ⟨_, rfl⟩
  obtain ⟨c, hc⟩ : ∃ c, (a.k == b.k) = c := ⟨_, rfl⟩
  obtain ⟨n2, hn2⟩ : ∃ n2, (a.s.toList == b.s.toList) = n2 := ⟨_, rfl⟩
  rw [hm, hn] at hu
  rw [hc, hn2] at hd
  generalize isUn s = u at *
  generalize eqB a b = d at *
  generalize isOp s = o at *
  generalize rankN s = r at *
  generalize endB a = ee at *
  generalize spaceB p a b = zz at *
  have ho : (o == o) = true := by cases o <;> rfl
  have hee : (ee == ee) = true := by cases ee <;> rfl
  have hzz : (zz == zz) = true := by cases zz <;> rfl
  have huu : (u == u) = true := by cases u <;> rfl
  have hdd : (d == d) = true := by cases d <;> rfl
  replace hu := hide hu
  replace hd := hide hd
  replace hm := hide hm
  replace hn := hide hn
  replace hc := hide hc
  replace hn2 := hide hn2
  simp only [Tk.val] at H14 H15 H16 H17 H18
  replace H9 := hide H9
  replace H10 := hide H10
  replace H11 := hide H11
  replace H12 := hide H12
  replace H13 := hide H13
  replace H14 := hide H14
  replace H15 := hide H15
  replace H16 := hide H16
  replace H17 := hide H17
  replace H18 := hide H18
  obtain ⟨k1, s1, p1, l1, q1⟩ := t1
  obtain ⟨k2, s2, p2, l2, q2⟩ := t2
  obtain ⟨k3, s3, p3, l3, q3⟩ := t3
  simp only [Tk.val] at HC1 HC2 HC3 ⊢
  unfold Tk.obj at hx
  dsimp only at hx
  replace HC := hide HC
  replace HC1 := hide HC1
  replace HC2 := hide HC2
  replace HC3 := hide HC3
  go_enter Try.func3, Try.ntmps3
  go_wp2_with fail
  refine (begun_any _).mono ?_
  rintro e W1 ⟨rfl, hw⟩
  obtain ⟨hP, hA, hB, hw⟩ := unhide hx _ hw
  clear hx
  go_upto_region 4 with fail
  generalize hg : w.heap.size = g at *
  replace hg := hide hg
  go_cut [0] from 13 (fun s0 wx => s0 = .string s ∧ Blk wx g p ∧ Blk wx (g + 1) a ∧ Blk wx (g + 1 + 1) b ∧ Below g w wx)
  case first =>
    have hd : Below W1.heap.size W1 W1.drew := (Below.refl _ _).drew
    have bP := (hP.below hd hP.lt).box
    have bA := (hA.below hd hA.lt).box
    have bB := (hB.below hd hB.lt).box
    refine wp_region_D (fun w' => Box w' g ⟨k1, s1, p1, l1, q1⟩ ∧ Box w' (g + 1) ⟨k2, s2, p2, l2, q2⟩ ∧ Box w' (g + 1 + 1) ⟨k3, s3, p3, l3, q3⟩) (fun j => [9, 10, 11].contains j) (by kernel_rfl) ?_
    refine wpAnyD_take (i := 0) (v := .string a0) [9, 10, 11] (fun _ => rfl) rfl (closed_none _) 6 (by kernel_rfl) rfl (by kernel_rfl) (by kernel_rfl) (by kernel_rfl) (fun _ _ _ h => h) (Or.inl ⟨by kernel_rfl, ?_⟩) ⟨bP, bA, bB⟩ (fun hcl => ?_)
    · intro w hSw; go_simp
    simp only [List.getElem_toArray, List.getElem_cons_succ, List.getElem_cons_zero, Act.put, List.setIfInBounds_toArray, List.set_cons_zero, List.set_cons_succ]
    refine wpAnyD_take (i := 2) (v := .agg #[.int .i64 k1, .string s1, .int .i64 p1, .int .i64 l1, .bool q1]) [9, 10, 11] (fun _ => rfl) rfl hcl 6 (by kernel_rfl) rfl (by kernel_rfl) (by kernel_rfl) (by kernel_rfl) (fun _ _ _ h => h) (Or.inl ⟨by kernel_rfl, ?_⟩) ⟨bP, bA, bB⟩ (fun hcl => ?_)
    · intro w hSw; obtain ⟨⟨x0, x1, x2, x3, x4⟩, ⟨y0, y1, y2, y3, y4⟩, ⟨z0, z1, z2, z3, z4⟩⟩ := hSw; dsimp only at *; go_simp
    simp only [List.getElem_toArray, List.getElem_cons_succ, List.getElem_cons_zero, Act.put, List.setIfInBounds_toArray, List.set_cons_zero, List.set_cons_succ]
    refine wpAnyD_take (i := 4) (v := .agg #[.int .i64 k2, .string s2, .int .i64 p2, .int .i64 l2, .bool q2]) [9, 10, 11] (fun _ => rfl) rfl hcl 6 (by kernel_rfl) rfl (by kernel_rfl) (by kernel_rfl) (by kernel_rfl) (fun _ _ _ h => h) (Or.inl ⟨by kernel_rfl, ?_⟩) ⟨bP, bA, bB⟩ (fun hcl => ?_)
    · intro w hSw; obtain ⟨⟨x0, x1, x2, x3, x4⟩, ⟨y0, y1, y2, y3, y4⟩, ⟨z0, z1, z2, z3, z4⟩⟩ := hSw; dsimp only at *; go_simp
    simp only [List.getElem_toArray, List.getElem_cons_succ, List.getElem_cons_zero, Act.put, List.setIfInBounds_toArray, List.set_cons_zero, List.set_cons_succ]
    refine wpAnyD_take (i := 6) (v := .agg #[.int .i64 k3, .string s3, .int .i64 p3, .int .i64 l3, .bool q3]) [9, 10, 11] (fun _ => rfl) rfl hcl 6 (by kernel_rfl) rfl (by kernel_rfl) (by kernel_rfl) (by kernel_rfl) (fun _ _ _ h => h) (Or.inl ⟨by kernel_rfl, ?_⟩) ⟨bP, bA, bB⟩ (fun hcl => ?_)
    · intro w hSw; obtain ⟨⟨x0, x1, x2, x3, x4⟩, ⟨y0, y1, y2, y3, y4⟩, ⟨z0, z1, z2, z3, z4⟩⟩ := hSw; dsimp only at *; go_simp
    simp only [List.getElem_toArray, List.getElem_cons_succ, List.getElem_cons_zero, Act.put, List.setIfInBounds_toArray, List.set_cons_zero, List.set_cons_succ]
    clear hcl
    have hw := hw.trans (hd.mono (Nat.le_of_lt hP.lt))
    replace hP := hP.below hd hP.lt
    replace hA := hA.below hd hA.lt
    replace hB := hB.below hd hB.lt
    clear hd bP bA bB
    generalize World.drew W1 = W2 at *
    refine wpAnyD_one (i := 1) rfl (by kernel_rfl) (fun K hK => ?_)
    replace hK := hide hK
    go_simp
    refine (unhide HC _).mono ?_
    rintro e W3 ⟨rfl, rfl⟩
    refine unhide hK _ _ (fun _ => ⟨hP.box, hA.box, hB.box⟩) ?_
    clear hK K HC
    try simp only [List.getElem_toArray, List.getElem_cons_succ, List.getElem_cons_zero, Act.put, List.setIfInBounds_toArray, List.set_cons_zero, List.set_cons_succ]
    refine wpAnyD_one (i := 3) rfl (by kernel_rfl) (fun K hK => ?_)
    replace hK := hide hK
    go_simp
    refine (unhide HC1 _).mono ?_
    rintro e W4 ⟨rfl, hwx⟩
    replace hw := hw.trans (hwx.mono (Nat.le_of_lt hP.lt))
    replace hP := hP.below hwx hP.lt
    replace hA := hA.below hwx hA.lt
    replace hB := hB.below hwx hB.lt
    clear hwx
    refine unhide hK _ _ (fun _ => ⟨hP.box, hA.box, hB.box⟩) ?_
    clear hK K HC1
    try simp only [List.getElem_toArray, List.getElem_cons_succ, List.getElem_cons_zero, Act.put, List.setIfInBounds_toArray, List.set_cons_zero, List.set_cons_succ]
    refine wpAnyD_one (i := 5) rfl (by kernel_rfl) (fun K hK => ?_)
    replace hK := hide hK
    go_simp
    refine (unhide HC2 _).mono ?_
    rintro e W6 ⟨rfl, hwx⟩
    replace hw := hw.trans (hwx.mono (Nat.le_of_lt hP.lt))
    replace hP := hP.below hwx hP.lt
    replace hA := hA.below hwx hA.lt
    replace hB := hB.below hwx hB.lt
    clear hwx
    refine unhide hK _ _ (fun _ => ⟨hP.box, hA.box, hB.box⟩) ?_
    clear hK K HC2
    try simp only [List.getElem_toArray, List.getElem_cons_succ, List.getElem_cons_zero, Act.put, List.setIfInBounds_toArray, List.set_cons_zero, List.set_cons_succ]
    refine wpAnyD_one (i := 7) rfl (by kernel_rfl) (fun K hK => ?_)
    replace hK := hide hK
    go_simp
    refine (unhide HC3 _).mono ?_
    rintro e W8 ⟨rfl, hwx⟩
    replace hw := hw.trans (hwx.mono (Nat.le_of_lt hP.lt))
    replace hP := hP.below hwx hP.lt
    replace hA := hA.below hwx hA.lt
    replace hB := hB.below hwx hB.lt
    clear hwx
    refine unhide hK _ _ (fun _ => ⟨hP.box, hA.box, hB.box⟩) ?_
    clear hK K HC3
    try simp only [List.getElem_toArray, List.getElem_cons_succ, List.getElem_cons_zero, Act.put, List.setIfInBounds_toArray, List.set_cons_zero, List.set_cons_succ]
    refine wpAnyD_one (i := 8) rfl (by kernel_rfl) (fun K hK => ?_)
    replace hK := hide hK
    go_simp
    refine unhide hK _ _ (fun _ => ⟨hP.box, hA.box, hB.box⟩) ?_
    clear hK K
    try simp only [List.getElem_toArray, List.getElem_cons_succ, List.getElem_cons_zero, Act.put, List.setIfInBounds_toArray, List.set_cons_zero, List.set_cons_succ]
    obtain ⟨c0, c1, c2, c3, c4⟩ := hP.box
    have f := hP.frozen
    dsimp only at c0 c1 c2 c3 c4
    refine wpAnyD_one (i := 9) rfl (by kernel_rfl) (fun K hK => ?_)
    replace hK := hide hK
    go_simp
    refine unhide hK _ _ (fun h => by cases h) ?_
    clear hK K c0 c1 c2 c3 c4 f
    replace hw := setTk_below hw (b := g) (by omega) p
    replace hA := hA.set_other (b := g) p (by omega)
    replace hB := hB.set_other (b := g) p (by omega)
    replace hP := hP.set p
    unfold setTk at hw hP hA hB
    generalize World.setCell _ _ _ = W10 at hw hP hA hB ⊢
    try simp only [List.getElem_toArray, List.getElem_cons_succ, List.getElem_cons_zero, Act.put, List.setIfInBounds_toArray, List.set_cons_zero, List.set_cons_succ]
    obtain ⟨c0, c1, c2, c3, c4⟩ := hA.box
    have f := hA.frozen
    dsimp only at c0 c1 c2 c3 c4
    refine wpAnyD_one (i := 10) rfl (by kernel_rfl) (fun K hK => ?_)
    replace hK := hide hK
    go_simp
    refine unhide hK _ _ (fun h => by cases h) ?_
    clear hK K c0 c1 c2 c3 c4 f
    replace hw := setTk_below hw (b := (g + 1)) (by omega) a
    replace hP := hP.set_other (b := (g + 1)) a (by omega)
    replace hB := hB.set_other (b := (g + 1)) a (by omega)
    replace hA := hA.set a
    unfold setTk at hw hP hA hB
    generalize World.setCell _ _ _ = W11 at hw hP hA hB ⊢
    try simp only [List.getElem_toArray, List.getElem_cons_succ, List.getElem_cons_zero, Act.put, List.setIfInBounds_toArray, List.set_cons_zero, List.set_cons_succ]
    obtain ⟨c0, c1, c2, c3, c4⟩ := hB.box
    have f := hB.frozen
    dsimp only at c0 c1 c2 c3 c4
    refine wpAnyD_one (i := 11) rfl (by kernel_rfl) (fun K hK => ?_)
    replace hK := hide hK
    go_simp
    refine unhide hK _ _ (fun h => by cases h) ?_
    clear hK K c0 c1 c2 c3 c4 f
    replace hw := setTk_below hw (b := (g + 1 + 1)) (by omega) b
    replace hP := hP.set_other (b := (g + 1 + 1)) b (by omega)
    replace hA := hA.set_other (b := (g + 1 + 1)) b (by omega)
    replace hB := hB.set b
    unfold setTk at hw hP hA hB
    generalize World.setCell _ _ _ = W12 at hw hP hA hB ⊢
    try simp only [List.getElem_toArray, List.getElem_cons_succ, List.getElem_cons_zero, Act.put, List.setIfInBounds_toArray, List.set_cons_zero, List.set_cons_succ]
    refine wpAnyD_done (by kernel_rfl) ?_ _
    go_wp2
    go_meet
    case rel => exact ⟨rfl, hP, hA, hB, hw⟩
  case rest =>
    clear hP hA hB hw
    obtain ⟨rfl, hP, hA, hB, hw⟩ := hcut
    clear HC HC1 HC2 HC3
    go_upto_region 5 with fail
    obtain ⟨v18, h18⟩ : ∃ v : Value, v = cond m undef (.string s) := ⟨_, rfl⟩
    obtain ⟨v19, h19⟩ : ∃ v : Value, v = cond m undef (.bool n) := ⟨_, rfl⟩
    obtain ⟨v40, h40⟩ : ∃ v : Value, v = cond c (.pointer (some ⟨g + 1, 1, none⟩)) undef := ⟨_, rfl⟩
    obtain ⟨v41, h41⟩ : ∃ v : Value, v = cond c (.string a.s) undef := ⟨_, rfl⟩
    obtain ⟨v42, h42⟩ : ∃ v : Value, v = cond c (.pointer (some ⟨g + 1 + 1, 1, none⟩)) undef := ⟨_, rfl⟩
    obtain ⟨v43, h43⟩ : ∃ v : Value, v = cond c (.string b.s) undef := ⟨_, rfl⟩
    obtain ⟨v44, h44⟩ : ∃ v : Value, v = cond c (.bool n2) undef := ⟨_, rfl⟩
    replace hm := unhide hm
    replace hn := unhide hn
    replace hc := unhide hc
    replace hn2 := unhide hn2
    have hbx := hP.box
    have hby := hA.box
    have hbz := hB.box
    clear hP hA hB
    have hdr : Below wc.heap.size wc wc.drew := (Below.refl _ _).drew
    have hS : Box wc.drew g p ∧ Box wc.drew (g + 1) a ∧ Box wc.drew (g + 1 + 1) b ∧ Below g w wc.drew := keep3 hdr ⟨hbx, hby, hbz, hw⟩
    clear hdr hbx hby hbz
    refine wp_region_held_drew (S := fun w' => Box w' g p ∧ Box w' (g + 1) a ∧ Box w' (g + 1 + 1) b ∧ Below g w w') (by kernel_rfl) hS (fun _ => ?_)
    generalize World.drew wc = W at hS ⊢
    refine wpAnyH_take (i := 0) (v := .string s) rfl (by kernel_rfl) (by kernel_rfl) (by kernel_rfl) (fun _ _ _ h => h) (Or.inl ⟨by kernel_rfl, ?_⟩) hS ?_
    · intro w hSw; go_simp
    try simp only [List.getElem_toArray, List.getElem_cons_succ, List.getElem_cons_zero, Act.put, List.setIfInBounds_toArray, List.set_cons_zero, List.set_cons_succ]
    refine wpAnyH_take (i := 2) (v := .string s) rfl (by kernel_rfl) (by kernel_rfl) (by kernel_rfl) (fun _ _ _ h => h) (Or.inl ⟨by kernel_rfl, ?_⟩) hS ?_
    · intro w hSw; go_simp
    try simp only [List.getElem_toArray, List.getElem_cons_succ, List.getElem_cons_zero, Act.put, List.setIfInBounds_toArray, List.set_cons_zero, List.set_cons_succ]
    refine wpAnyH_ready (rs := [1]) (by kernel_rfl) (by simp) ?_
    refine AllReadyH.cons rfl (fun K hK => ?_) AllReadyH.nil
    go_simp
    refine (unhide H9 _).mono ?_
    rintro e W ⟨rfl, rfl⟩
    refine hK.out _ _ hS (fun _ => ?_)
    clear hK K
    try simp only [List.getElem_toArray, List.getElem_cons_succ, List.getElem_cons_zero, Act.put, List.setIfInBounds_toArray, List.set_cons_zero, List.set_cons_succ]
    refine wpAnyH_ready (rs := [3]) (by kernel_rfl) (by simp) ?_
    refine AllReadyH.cons rfl (fun K hK => ?_) AllReadyH.nil
    go_simp
    refine (unhide H10 _).mono ?_
    rintro e W ⟨rfl, hwx⟩
    replace hS := keep3 hwx hS
    refine hK.out _ _ hS (fun _ => ?_)
    clear hK K hwx
    try simp only [List.getElem_toArray, List.getElem_cons_succ, List.getElem_cons_zero, Act.put, List.setIfInBounds_toArray, List.set_cons_zero, List.set_cons_succ]
    refine wpAnyH_take (i := 4) (v := .bool true) rfl (by kernel_rfl) (by kernel_rfl) (by kernel_rfl) (fun _ _ _ h => h) (Or.inl ⟨by kernel_rfl, ?_⟩) hS ?_
    · intro w hSw; go_simp
    try simp only [List.getElem_toArray, List.getElem_cons_succ, List.getElem_cons_zero, Act.put, List.setIfInBounds_toArray, List.set_cons_zero, List.set_cons_succ]
    refine wpAnyH_take (i := 5) (v := .bool true) rfl (by kernel_rfl) (by kernel_rfl) (by kernel_rfl) (fun _ _ _ h => h) (Or.inl ⟨by kernel_rfl, ?_⟩) hS ?_
    · intro w hSw; go_simp
    try simp only [List.getElem_toArray, List.getElem_cons_succ, List.getElem_cons_zero, Act.put, List.setIfInBounds_toArray, List.set_cons_zero, List.set_cons_succ]
    refine wpAnyH_take (i := 6) (v := .string s) rfl (by kernel_rfl) (by kernel_rfl) (by kernel_rfl) (fun _ _ _ h => h) (Or.inl ⟨by kernel_rfl, ?_⟩) hS ?_
    · intro w hSw; go_simp
    try simp only [List.getElem_toArray, List.getElem_cons_succ, List.getElem_cons_zero, Act.put, List.setIfInBounds_toArray, List.set_cons_zero, List.set_cons_succ]
    refine wpAnyH_take (i := 8) (v := .string s) rfl (by kernel_rfl) (by kernel_rfl) (by kernel_rfl) (fun _ _ _ h => h) (Or.inl ⟨by kernel_rfl, ?_⟩) hS ?_
    · intro w hSw; go_simp
    try simp only [List.getElem_toArray, List.getElem_cons_succ, List.getElem_cons_zero, Act.put, List.setIfInBounds_toArray, List.set_cons_zero, List.set_cons_succ]
    refine wpAnyH_ready (rs := [7]) (by kernel_rfl) (by simp) ?_
    refine AllReadyH.cons rfl (fun K hK => ?_) AllReadyH.nil
    go_simp
    refine (unhide H11 _).mono ?_
    rintro e W ⟨rfl, rfl⟩
    refine hK.out _ _ hS (fun _ => ?_)
    clear hK K
    try simp only [List.getElem_toArray, List.getElem_cons_succ, List.getElem_cons_zero, Act.put, List.setIfInBounds_toArray, List.set_cons_zero, List.set_cons_succ]
    refine wpAnyH_ready (rs := [9]) (by kernel_rfl) (by simp) ?_
    refine AllReadyH.cons rfl (fun K hK => ?_) AllReadyH.nil
    go_simp
    refine (unhide H12 _).mono ?_
    rintro e W ⟨rfl, hwx⟩
    replace hS := keep3 hwx hS
    refine hK.out _ _ hS (fun _ => ?_)
    clear hK K hwx
    try simp only [List.getElem_toArray, List.getElem_cons_succ, List.getElem_cons_zero, Act.put, List.setIfInBounds_toArray, List.set_cons_zero, List.set_cons_succ]
    refine wpAnyH_take (i := 10) (v := .bool true) rfl (by kernel_rfl) (by kernel_rfl) (by kernel_rfl) (fun _ _ _ h => h) (Or.inl ⟨by kernel_rfl, ?_⟩) hS ?_
    · intro w hSw; go_simp
    try simp only [List.getElem_toArray, List.getElem_cons_succ, List.getElem_cons_zero, Act.put, List.setIfInBounds_toArray, List.set_cons_zero, List.set_cons_succ]
    refine wpAnyH_take (i := 11) (v := .bool true) rfl (by kernel_rfl) (by kernel_rfl) (by kernel_rfl) (fun _ _ _ h => h) (Or.inl ⟨by kernel_rfl, ?_⟩) hS ?_
    · intro w hSw; go_simp
    try simp only [List.getElem_toArray, List.getElem_cons_succ, List.getElem_cons_zero, Act.put, List.setIfInBounds_toArray, List.set_cons_zero, List.set_cons_succ]
    refine wpAnyH_take (i := 12) (v := .bool true) rfl (by kernel_rfl) (by kernel_rfl) (by kernel_rfl) (fun _ _ _ h => h) (Or.inl ⟨by kernel_rfl, ?_⟩) hS ?_
    · intro w hSw; go_simp
    try simp only [List.getElem_toArray, List.getElem_cons_succ, List.getElem_cons_zero, Act.put, List.setIfInBounds_toArray, List.set_cons_zero, List.set_cons_succ]
    refine wpAnyH_take (i := 13) (v := .string s) rfl (by kernel_rfl) (by kernel_rfl) (by kernel_rfl) (fun _ _ _ h => h) (Or.inl ⟨by kernel_rfl, ?_⟩) hS ?_
    · intro w hSw; go_simp
    try simp only [List.getElem_toArray, List.getElem_cons_succ, List.getElem_cons_zero, Act.put, List.setIfInBounds_toArray, List.set_cons_zero, List.set_cons_succ]
    refine wpAnyH_take (i := 15) (v := .string s) rfl (by kernel_rfl) (by kernel_rfl) (by kernel_rfl) (fun _ _ _ h => h) (Or.inl ⟨by kernel_rfl, ?_⟩) hS ?_
    · intro w hSw; go_simp
    try simp only [List.getElem_toArray, List.getElem_cons_succ, List.getElem_cons_zero, Act.put, List.setIfInBounds_toArray, List.set_cons_zero, List.set_cons_succ]
    refine wpAnyH_take (i := 16) (v := .bool m) rfl (by kernel_rfl) (by kernel_rfl) (by kernel_rfl) (fun _ _ _ h => h) (Or.inl ⟨by kernel_rfl, ?_⟩) hS ?_
    · intro w hSw; go_simp
    try simp only [List.getElem_toArray, List.getElem_cons_succ, List.getElem_cons_zero, Act.put, List.setIfInBounds_toArray, List.set_cons_zero, List.set_cons_succ]
    refine wpAnyH_ready (rs := [14]) (by kernel_rfl) (by simp) ?_
    refine AllReadyH.cons rfl (fun K hK => ?_) AllReadyH.nil
    go_simp
    refine (unhide H13 _).mono ?_
    rintro e W ⟨rfl, rfl⟩
    refine hK.out _ _ hS (fun _ => ?_)
    clear hK K
    try simp only [List.getElem_toArray, List.getElem_cons_succ, List.getElem_cons_zero, Act.put, List.setIfInBounds_toArray, List.set_cons_zero, List.set_cons_succ]
    refine wpAnyH_take (i := 17) (v := .bool m) rfl (by kernel_rfl) (by kernel_rfl) (by kernel_rfl) (fun _ _ _ h => h) (Or.inl ⟨by kernel_rfl, ?_⟩) hS ?_
    · intro w hSw; go_simp
    try simp only [List.getElem_toArray, List.getElem_cons_succ, List.getElem_cons_zero, Act.put, List.setIfInBounds_toArray, List.set_cons_zero, List.set_cons_succ]
    refine wpAnyH_take (i := 18) (v := v18) rfl (by kernel_rfl) (by kernel_rfl) (by kernel_rfl) (fun _ _ _ h => h) ?_ hS ?_
    · cases m with
      | false =>
        dsimp only [cond] at h18
        exact Or.inl ⟨by kernel_rfl, by intro w hSw; go_simp⟩
      | true =>
        dsimp only [cond] at h18
        exact Or.inr ⟨by kernel_rfl, h18⟩
    try simp only [List.getElem_toArray, List.getElem_cons_succ, List.getElem_cons_zero, Act.put, List.setIfInBounds_toArray, List.set_cons_zero, List.set_cons_succ]
    refine wpAnyH_take (i := 19) (v := v19) rfl (by kernel_rfl) (by kernel_rfl) (by kernel_rfl) (fun _ _ _ h => h) ?_ hS ?_
    · cases m with
      | false =>
        dsimp only [cond] at h18 h19
        exact Or.inl ⟨by kernel_rfl, by intro w hSw; go_simp⟩
      | true =>
        dsimp only [cond] at h18 h19
        exact Or.inr ⟨by kernel_rfl, h19⟩
    try simp only [List.getElem_toArray, List.getElem_cons_succ, List.getElem_cons_zero, Act.put, List.setIfInBounds_toArray, List.set_cons_zero, List.set_cons_succ]
    refine wpAnyH_take (i := 20) (v := .bool u) rfl (by kernel_rfl) (by kernel_rfl) (by kernel_rfl) (fun _ _ _ h => h) ?_ hS ?_
    · cases m with
      | false =>
        dsimp only [cond] at h18 h19
        obtain rfl : u = n := by simpa using unhide hu
        exact Or.inl ⟨by kernel_rfl, by intro w hSw; go_simp⟩
      | true =>
        dsimp only [cond] at h18 h19
        obtain rfl : u = true := by simpa using unhide hu
        exact Or.inl ⟨by kernel_rfl, by intro w hSw; go_simp⟩
    try simp only [List.getElem_toArray, List.getElem_cons_succ, List.getElem_cons_zero, Act.put, List.setIfInBounds_toArray, List.set_cons_zero, List.set_cons_succ]
    refine wpAnyH_take (i := 21) (v := .bool true) rfl (by kernel_rfl) (by kernel_rfl) (by kernel_rfl) (fun _ _ _ h => h) (Or.inl ⟨by kernel_rfl, ?_⟩) hS ?_
    · intro w hSw; go_simp
    try simp only [List.getElem_toArray, List.getElem_cons_succ, List.getElem_cons_zero, Act.put, List.setIfInBounds_toArray, List.set_cons_zero, List.set_cons_succ]
    refine wpAnyH_take (i := 22) (v := .bool true) rfl (by kernel_rfl) (by kernel_rfl) (by kernel_rfl) (fun _ _ _ h => h) (Or.inl ⟨by kernel_rfl, ?_⟩) hS ?_
    · intro w hSw; go_simp
    try simp only [List.getElem_toArray, List.getElem_cons_succ, List.getElem_cons_zero, Act.put, List.setIfInBounds_toArray, List.set_cons_zero, List.set_cons_succ]
    refine wpAnyH_take (i := 23) (v := .bool true) rfl (by kernel_rfl) (by kernel_rfl) (by kernel_rfl) (fun _ _ _ h => h) (Or.inl ⟨by kernel_rfl, ?_⟩) hS ?_
    · intro w hSw; go_simp
    try simp only [List.getElem_toArray, List.getElem_cons_succ, List.getElem_cons_zero, Act.put, List.setIfInBounds_toArray, List.set_cons_zero, List.set_cons_succ]
    refine wpAnyH_take (i := 24) (v := .agg #[.int .i64 a.k, .string a.s, .int .i64 a.p, .int .i64 a.l, .bool a.q]) rfl (by kernel_rfl) (by kernel_rfl) (by kernel_rfl) (fun _ _ _ h => h) (Or.inl ⟨by kernel_rfl, ?_⟩) hS ?_
    · intro w hSw; obtain ⟨⟨x0, x1, x2, x3, x4⟩, ⟨y0, y1, y2, y3, y4⟩, ⟨z0, z1, z2, z3, z4⟩, _⟩ := hSw; go_simp
    try simp only [List.getElem_toArray, List.getElem_cons_succ, List.getElem_cons_zero, Act.put, List.setIfInBounds_toArray, List.set_cons_zero, List.set_cons_succ]
    refine wpAnyH_take (i := 26) (v := .agg #[.int .i64 a.k, .string a.s, .int .i64 a.p, .int .i64 a.l, .bool a.q]) rfl (by kernel_rfl) (by kernel_rfl) (by kernel_rfl) (fun _ _ _ h => h) (Or.inl ⟨by kernel_rfl, ?_⟩) hS ?_
    · intro w hSw; obtain ⟨⟨x0, x1, x2, x3, x4⟩, ⟨y0, y1, y2, y3, y4⟩, ⟨z0, z1, z2, z3, z4⟩, _⟩ := hSw; go_simp
    try simp only [List.getElem_toArray, List.getElem_cons_succ, List.getElem_cons_zero, Act.put, List.setIfInBounds_toArray, List.set_cons_zero, List.set_cons_succ]
    refine wpAnyH_ready (rs := [25]) (by kernel_rfl) (by simp) ?_
    refine AllReadyH.cons rfl (fun K hK => ?_) AllReadyH.nil
    go_simp
    refine (unhide H14 _).mono ?_
    rintro e W ⟨rfl, hwx⟩
    replace hS := keep3 hwx hS
    refine hK.out _ _ hS (fun _ => ?_)
    clear hK K hwx
    try simp only [List.getElem_toArray, List.getElem_cons_succ, List.getElem_cons_zero, Act.put, List.setIfInBounds_toArray, List.set_cons_zero, List.set_cons_succ]
    refine wpAnyH_ready (rs := [27]) (by kernel_rfl) (by simp) ?_
    refine AllReadyH.cons rfl (fun K hK => ?_) AllReadyH.nil
    go_simp
    refine (unhide H15 _).mono ?_
    rintro e W ⟨rfl, hwx⟩
    replace hS := keep3 hwx hS
    refine hK.out _ _ hS (fun _ => ?_)
    clear hK K hwx
    try simp only [List.getElem_toArray, List.getElem_cons_succ, List.getElem_cons_zero, Act.put, List.setIfInBounds_toArray, List.set_cons_zero, List.set_cons_succ]
    refine wpAnyH_take (i := 28) (v := .bool true) rfl (by kernel_rfl) (by kernel_rfl) (by kernel_rfl) (fun _ _ _ h => h) (Or.inl ⟨by kernel_rfl, ?_⟩) hS ?_
    · intro w hSw; go_simp
    try simp only [List.getElem_toArray, List.getElem_cons_succ, List.getElem_cons_zero, Act.put, List.setIfInBounds_toArray, List.set_cons_zero, List.set_cons_succ]
    refine wpAnyH_take (i := 29) (v := .bool true) rfl (by kernel_rfl) (by kernel_rfl) (by kernel_rfl) (fun _ _ _ h => h) (Or.inl ⟨by kernel_rfl, ?_⟩) hS ?_
    · intro w hSw; go_simp
    try simp only [List.getElem_toArray, List.getElem_cons_succ, List.getElem_cons_zero, Act.put, List.setIfInBounds_toArray, List.set_cons_zero, List.set_cons_succ]
    refine wpAnyH_take (i := 30) (v := .bool true) rfl (by kernel_rfl) (by kernel_rfl) (by kernel_rfl) (fun _ _ _ h => h) (Or.inl ⟨by kernel_rfl, ?_⟩) hS ?_
    · intro w hSw; go_simp
    try simp only [List.getElem_toArray, List.getElem_cons_succ, List.getElem_cons_zero, Act.put, List.setIfInBounds_toArray, List.set_cons_zero, List.set_cons_succ]
    refine wpAnyH_take (i := 31) (v := .agg #[.int .i64 a.k, .string a.s, .int .i64 a.p, .int .i64 a.l, .bool a.q]) rfl (by kernel_rfl) (by kernel_rfl) (by kernel_rfl) (fun _ _ _ h => h) (Or.inl ⟨by kernel_rfl, ?_⟩) hS ?_
    · intro w hSw; obtain ⟨⟨x0, x1, x2, x3, x4⟩, ⟨y0, y1, y2, y3, y4⟩, ⟨z0, z1, z2, z3, z4⟩, _⟩ := hSw; go_simp
    try simp only [List.getElem_toArray, List.getElem_cons_succ, List.getElem_cons_zero, Act.put, List.setIfInBounds_toArray, List.set_cons_zero, List.set_cons_succ]
    refine wpAnyH_take (i := 32) (v := .agg #[.int .i64 b.k, .string b.s, .int .i64 b.p, .int .i64 b.l, .bool b.q]) rfl (by kernel_rfl) (by kernel_rfl) (by kernel_rfl) (fun _ _ _ h => h) (Or.inl ⟨by kernel_rfl, ?_⟩) hS ?_
    · intro w hSw; obtain ⟨⟨x0, x1, x2, x3, x4⟩, ⟨y0, y1, y2, y3, y4⟩, ⟨z0, z1, z2, z3, z4⟩, _⟩ := hSw; go_simp
    try simp only [List.getElem_toArray, List.getElem_cons_succ, List.getElem_cons_zero, Act.put, List.setIfInBounds_toArray, List.set_cons_zero, List.set_cons_succ]
    refine wpAnyH_take (i := 34) (v := .pointer (some ⟨g + 1, 0, none⟩)) rfl (by kernel_rfl) (by kernel_rfl) (by kernel_rfl) (fun _ _ _ h => h) (Or.inl ⟨by kernel_rfl, ?_⟩) hS ?_
    · intro w hSw; go_simp
    try simp only [List.getElem_toArray, List.getElem_cons_succ, List.getElem_cons_zero, Act.put, List.setIfInBounds_toArray, List.set_cons_zero, List.set_cons_succ]
    refine wpAnyH_take (i := 35) (v := .int .i64 a.k) rfl (by kernel_rfl) (by kernel_rfl) (by kernel_rfl) (fun _ _ _ h => h) (Or.inl ⟨by kernel_rfl, ?_⟩) hS ?_
    · intro w hSw; obtain ⟨⟨x0, x1, x2, x3, x4⟩, ⟨y0, y1, y2, y3, y4⟩, ⟨z0, z1, z2, z3, z4⟩, _⟩ := hSw; go_simp
    try simp only [List.getElem_toArray, List.getElem_cons_succ, List.getElem_cons_zero, Act.put, List.setIfInBounds_toArray, List.set_cons_zero, List.set_cons_succ]
    refine wpAnyH_take (i := 36) (v := .pointer (some ⟨g + 1 + 1, 0, none⟩)) rfl (by kernel_rfl) (by kernel_rfl) (by kernel_rfl) (fun _ _ _ h => h) (Or.inl ⟨by kernel_rfl, ?_⟩) hS ?_
    · intro w hSw; go_simp
    try simp only [List.getElem_toArray, List.getElem_cons_succ, List.getElem_cons_zero, Act.put, List.setIfInBounds_toArray, List.set_cons_zero, List.set_cons_succ]
    refine wpAnyH_take (i := 37) (v := .int .i64 b.k) rfl (by kernel_rfl) (by kernel_rfl) (by kernel_rfl) (fun _ _ _ h => h) (Or.inl ⟨by kernel_rfl, ?_⟩) hS ?_
    · intro w hSw; obtain ⟨⟨x0, x1, x2, x3, x4⟩, ⟨y0, y1, y2, y3, y4⟩, ⟨z0, z1, z2, z3, z4⟩, _⟩ := hSw; go_simp
    try simp only [List.getElem_toArray, List.getElem_cons_succ, List.getElem_cons_zero, Act.put, List.setIfInBounds_toArray, List.set_cons_zero, List.set_cons_succ]
    refine wpAnyH_take (i := 38) (v := .bool c) rfl (by kernel_rfl) (by kernel_rfl) (by kernel_rfl) (fun _ _ _ h => h) (Or.inl ⟨by kernel_rfl, ?_⟩) hS ?_
    · intro w hSw; go_simp
    try simp only [List.getElem_toArray, List.getElem_cons_succ, List.getElem_cons_zero, Act.put, List.setIfInBounds_toArray, List.set_cons_zero, List.set_cons_succ]
    refine wpAnyH_ready (rs := [33]) (by kernel_rfl) (by simp) ?_
    refine AllReadyH.cons rfl (fun K hK => ?_) AllReadyH.nil
    go_simp
    refine (unhide H16 _).mono ?_
    rintro e W ⟨rfl, hwx⟩
    replace hS := keep3 hwx hS
    refine hK.out _ _ hS (fun _ => ?_)
    clear hK K hwx
    try simp only [List.getElem_toArray, List.getElem_cons_succ, List.getElem_cons_zero, Act.put, List.setIfInBounds_toArray, List.set_cons_zero, List.set_cons_succ]
    refine wpAnyH_take (i := 39) (v := .bool c) rfl (by kernel_rfl) (by kernel_rfl) (by kernel_rfl) (fun _ _ _ h => h) (Or.inl ⟨by kernel_rfl, ?_⟩) hS ?_
    · intro w hSw; go_simp
    try simp only [List.getElem_toArray, List.getElem_cons_succ, List.getElem_cons_zero, Act.put, List.setIfInBounds_toArray, List.set_cons_zero, List.set_cons_succ]
    refine wpAnyH_take (i := 40) (v := v40) rfl (by kernel_rfl) (by kernel_rfl) (by kernel_rfl) (fun _ _ _ h => h) ?_ hS ?_
    · cases c with
      | false =>
        dsimp only [cond] at h40
        exact Or.inr ⟨by kernel_rfl, h40⟩
      | true =>
        dsimp only [cond] at h40
        exact Or.inl ⟨by kernel_rfl, by intro w hSw; go_simp⟩
    try simp only [List.getElem_toArray, List.getElem_cons_succ, List.getElem_cons_zero, Act.put, List.setIfInBounds_toArray, List.set_cons_zero, List.set_cons_succ]
    refine wpAnyH_take (i := 41) (v := v41) rfl (by kernel_rfl) (by kernel_rfl) (by kernel_rfl) (fun _ _ _ h => h) ?_ hS ?_
    · cases c with
      | false =>
        dsimp only [cond] at h40 h41
        exact Or.inr ⟨by kernel_rfl, h41⟩
      | true =>
        dsimp only [cond] at h40 h41
        exact Or.inl ⟨by kernel_rfl, by intro w hSw; obtain ⟨⟨x0, x1, x2, x3, x4⟩, ⟨y0, y1, y2, y3, y4⟩, ⟨z0, z1, z2, z3, z4⟩, _⟩ := hSw; go_simp⟩
    try simp only [List.getElem_toArray, List.getElem_cons_succ, List.getElem_cons_zero, Act.put, List.setIfInBounds_toArray, List.set_cons_zero, List.set_cons_succ]
    refine wpAnyH_take (i := 42) (v := v42) rfl (by kernel_rfl) (by kernel_rfl) (by kernel_rfl) (fun _ _ _ h => h) ?_ hS ?_
    · cases c with
      | false =>
        dsimp only [cond] at h42
        exact Or.inr ⟨by kernel_rfl, h42⟩
      | true =>
        dsimp only [cond] at h42
        exact Or.inl ⟨by kernel_rfl, by intro w hSw; go_simp⟩
    try simp only [List.getElem_toArray, List.getElem_cons_succ, List.getElem_cons_zero, Act.put, List.setIfInBounds_toArray, List.set_cons_zero, List.set_cons_succ]
    refine wpAnyH_take (i := 43) (v := v43) rfl (by kernel_rfl) (by kernel_rfl) (by kernel_rfl) (fun _ _ _ h => h) ?_ hS ?_
    · cases c with
      | false =>
        dsimp only [cond] at h42 h43
        exact Or.inr ⟨by kernel_rfl, h43⟩
      | true =>
        dsimp only [cond] at h42 h43
        exact Or.inl ⟨by kernel_rfl, by intro w hSw; obtain ⟨⟨x0, x1, x2, x3, x4⟩, ⟨y0, y1, y2, y3, y4⟩, ⟨z0, z1, z2, z3, z4⟩, _⟩ := hSw; go_simp⟩
    try simp only [List.getElem_toArray, List.getElem_cons_succ, List.getElem_cons_zero, Act.put, List.setIfInBounds_toArray, List.set_cons_zero, List.set_cons_succ]
    refine wpAnyH_take (i := 44) (v := v44) rfl (by kernel_rfl) (by kernel_rfl) (by kernel_rfl) (fun _ _ _ h => h) ?_ hS ?_
    · cases c with
      | false =>
        dsimp only [cond] at h41 h43 h44
        exact Or.inr ⟨by kernel_rfl, h44⟩
      | true =>
        dsimp only [cond] at h41 h43 h44
        exact Or.inl ⟨by kernel_rfl, by intro w hSw; go_simp⟩
    try simp only [List.getElem_toArray, List.getElem_cons_succ, List.getElem_cons_zero, Act.put, List.setIfInBounds_toArray, List.set_cons_zero, List.set_cons_succ]
    refine wpAnyH_take (i := 45) (v := .bool d) rfl (by kernel_rfl) (by kernel_rfl) (by kernel_rfl) (fun _ _ _ h => h) ?_ hS ?_
    · cases c with
      | false =>
        dsimp only [cond] at h44
        obtain rfl : d = false := by simpa using unhide hd
        exact Or.inl ⟨by kernel_rfl, by intro w hSw; go_simp⟩
      | true =>
        dsimp only [cond] at h44
        obtain rfl : d = n2 := by simpa using unhide hd
        exact Or.inl ⟨by kernel_rfl, by intro w hSw; go_simp⟩
    try simp only [List.getElem_toArray, List.getElem_cons_succ, List.getElem_cons_zero, Act.put, List.setIfInBounds_toArray, List.set_cons_zero, List.set_cons_succ]
    refine wpAnyH_take (i := 46) (v := .bool true) rfl (by kernel_rfl) (by kernel_rfl) (by kernel_rfl) (fun _ _ _ h => h) (Or.inl ⟨by kernel_rfl, ?_⟩) hS ?_
    · intro w hSw; go_simp
    try simp only [List.getElem_toArray, List.getElem_cons_succ, List.getElem_cons_zero, Act.put, List.setIfInBounds_toArray, List.set_cons_zero, List.set_cons_succ]
    refine wpAnyH_take (i := 47) (v := .bool true) rfl (by kernel_rfl) (by kernel_rfl) (by kernel_rfl) (fun _ _ _ h => h) (Or.inl ⟨by kernel_rfl, ?_⟩) hS ?_
    · intro w hSw; go_simp
    try simp only [List.getElem_toArray, List.getElem_cons_succ, List.getElem_cons_zero, Act.put, List.setIfInBounds_toArray, List.set_cons_zero, List.set_cons_succ]
    refine wpAnyH_take (i := 48) (v := .bool true) rfl (by kernel_rfl) (by kernel_rfl) (by kernel_rfl) (fun _ _ _ h => h) (Or.inl ⟨by kernel_rfl, ?_⟩) hS ?_
    · intro w hSw; go_simp
    try simp only [List.getElem_toArray, List.getElem_cons_succ, List.getElem_cons_zero, Act.put, List.setIfInBounds_toArray, List.set_cons_zero, List.set_cons_succ]
    refine wpAnyH_take (i := 49) (v := .agg #[.int .i64 p.k, .string p.s, .int .i64 p.p, .int .i64 p.l, .bool p.q]) rfl (by kernel_rfl) (by kernel_rfl) (by kernel_rfl) (fun _ _ _ h => h) (Or.inl ⟨by kernel_rfl, ?_⟩) hS ?_
    · intro w hSw; obtain ⟨⟨x0, x1, x2, x3, x4⟩, ⟨y0, y1, y2, y3, y4⟩, ⟨z0, z1, z2, z3, z4⟩, _⟩ := hSw; go_simp
    try simp only [List.getElem_toArray, List.getElem_cons_succ, List.getElem_cons_zero, Act.put, List.setIfInBounds_toArray, List.set_cons_zero, List.set_cons_succ]
    refine wpAnyH_take (i := 50) (v := .agg #[.int .i64 a.k, .string a.s, .int .i64 a.p, .int .i64 a.l, .bool a.q]) rfl (by kernel_rfl) (by kernel_rfl) (by kernel_rfl) (fun _ _ _ h => h) (Or.inl ⟨by kernel_rfl, ?_⟩) hS ?_
    · intro w hSw; obtain ⟨⟨x0, x1, x2, x3, x4⟩, ⟨y0, y1, y2, y3, y4⟩, ⟨z0, z1, z2, z3, z4⟩, _⟩ := hSw; go_simp
    try simp only [List.getElem_toArray, List.getElem_cons_succ, List.getElem_cons_zero, Act.put, List.setIfInBounds_toArray, List.set_cons_zero, List.set_cons_succ]
    refine wpAnyH_take (i := 51) (v := .agg #[.int .i64 b.k, .string b.s, .int .i64 b.p, .int .i64 b.l, .bool b.q]) rfl (by kernel_rfl) (by kernel_rfl) (by kernel_rfl) (fun _ _ _ h => h) (Or.inl ⟨by kernel_rfl, ?_⟩) hS ?_
    · intro w hSw; obtain ⟨⟨x0, x1, x2, x3, x4⟩, ⟨y0, y1, y2, y3, y4⟩, ⟨z0, z1, z2, z3, z4⟩, _⟩ := hSw; go_simp
    try simp only [List.getElem_toArray, List.getElem_cons_succ, List.getElem_cons_zero, Act.put, List.setIfInBounds_toArray, List.set_cons_zero, List.set_cons_succ]
    refine wpAnyH_take (i := 53) (v := .agg #[.int .i64 p.k, .string p.s, .int .i64 p.p, .int .i64 p.l, .bool p.q]) rfl (by kernel_rfl) (by kernel_rfl) (by kernel_rfl) (fun _ _ _ h => h) (Or.inl ⟨by kernel_rfl, ?_⟩) hS ?_
    · intro w hSw; obtain ⟨⟨x0, x1, x2, x3, x4⟩, ⟨y0, y1, y2, y3, y4⟩, ⟨z0, z1, z2, z3, z4⟩, _⟩ := hSw; go_simp
    try simp only [List.getElem_toArray, List.getElem_cons_succ, List.getElem_cons_zero, Act.put, List.setIfInBounds_toArray, List.set_cons_zero, List.set_cons_succ]
    refine wpAnyH_take (i := 54) (v := .agg #[.int .i64 a.k, .string a.s, .int .i64 a.p, .int .i64 a.l, .bool a.q]) rfl (by kernel_rfl) (by kernel_rfl) (by kernel_rfl) (fun _ _ _ h => h) (Or.inl ⟨by kernel_rfl, ?_⟩) hS ?_
    · intro w hSw; obtain ⟨⟨x0, x1, x2, x3, x4⟩, ⟨y0, y1, y2, y3, y4⟩, ⟨z0, z1, z2, z3, z4⟩, _⟩ := hSw; go_simp
    try simp only [List.getElem_toArray, List.getElem_cons_succ, List.getElem_cons_zero, Act.put, List.setIfInBounds_toArray, List.set_cons_zero, List.set_cons_succ]
    refine wpAnyH_take (i := 55) (v := .agg #[.int .i64 b.k, .string b.s, .int .i64 b.p, .int .i64 b.l, .bool b.q]) rfl (by kernel_rfl) (by kernel_rfl) (by kernel_rfl) (fun _ _ _ h => h) (Or.inl ⟨by kernel_rfl, ?_⟩) hS ?_
    · intro w hSw; obtain ⟨⟨x0, x1, x2, x3, x4⟩, ⟨y0, y1, y2, y3, y4⟩, ⟨z0, z1, z2, z3, z4⟩, _⟩ := hSw; go_simp
    try simp only [List.getElem_toArray, List.getElem_cons_succ, List.getElem_cons_zero, Act.put, List.setIfInBounds_toArray, List.set_cons_zero, List.set_cons_succ]
    refine wpAnyH_ready (rs := [52]) (by kernel_rfl) (by simp) ?_
    refine AllReadyH.cons rfl (fun K hK => ?_) AllReadyH.nil
    go_simp
    refine (unhide H17 _).mono ?_
    rintro e W ⟨rfl, hwx⟩
    replace hS := keep3 hwx hS
    refine hK.out _ _ hS (fun _ => ?_)
    clear hK K hwx
    try simp only [List.getElem_toArray, List.getElem_cons_succ, List.getElem_cons_zero, Act.put, List.setIfInBounds_toArray, List.set_cons_zero, List.set_cons_succ]
    refine wpAnyH_ready (rs := [56]) (by kernel_rfl) (by simp) ?_
    refine AllReadyH.cons rfl (fun K hK => ?_) AllReadyH.nil
    go_simp
    refine (unhide H18 _).mono ?_
    rintro e W ⟨rfl, hwx⟩
    replace hS := keep3 hwx hS
    refine hK.out _ _ hS (fun _ => ?_)
    clear hK K hwx
    try simp only [List.getElem_toArray, List.getElem_cons_succ, List.getElem_cons_zero, Act.put, List.setIfInBounds_toArray, List.set_cons_zero, List.set_cons_succ]
    refine wpAnyH_take (i := 57) (v := .bool true) rfl (by kernel_rfl) (by kernel_rfl) (by kernel_rfl) (fun _ _ _ h => h) (Or.inl ⟨by kernel_rfl, ?_⟩) hS ?_
    · intro w hSw; go_simp
    try simp only [List.getElem_toArray, List.getElem_cons_succ, List.getElem_cons_zero, Act.put, List.setIfInBounds_toArray, List.set_cons_zero, List.set_cons_succ]
    refine wpAnyH_take (i := 58) (v := .bool true) rfl (by kernel_rfl) (by kernel_rfl) (by kernel_rfl) (fun _ _ _ h => h) (Or.inl ⟨by kernel_rfl, ?_⟩) hS ?_
    · intro w hSw; go_simp
    try simp only [List.getElem_toArray, List.getElem_cons_succ, List.getElem_cons_zero, Act.put, List.setIfInBounds_toArray, List.set_cons_zero, List.set_cons_succ]
    refine wpAnyH_take (i := 59) (v := .bool true) rfl (by kernel_rfl) (by kernel_rfl) (by kernel_rfl) (fun _ _ _ h => h) (Or.inl ⟨by kernel_rfl, ?_⟩) hS ?_
    · intro w hSw; go_simp
    try simp only [List.getElem_toArray, List.getElem_cons_succ, List.getElem_cons_zero, Act.put, List.setIfInBounds_toArray, List.set_cons_zero, List.set_cons_succ]
    refine wpAnyH_done (by kernel_rfl) ?_ _
    go_wp2
    go_ret
    exact ⟨rfl, unhide hg ▸ hS.2.2.2⟩
end Go.Proofs.Ytmapohaobinjjaa

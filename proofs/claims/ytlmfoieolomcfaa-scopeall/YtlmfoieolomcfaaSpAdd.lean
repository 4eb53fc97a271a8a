/-
  Scopes: Add.
-/
import Derived.Test.YtlmfoieolomcfaaSpMap
import Derived.WalkSpells
namespace Go.Proofs.Ytlmfoieolomcfaa
open Go.RowKit Go.Maps Go.Lib Go.WideMaps
set_option linter.unusedSimpArgs false
set_option linter.unusedVariables false
set_option maxHeartbeats 2000000 in
set_option maxRecDepth 100000 in
theorem add_no {w : World} {g : Nat} {S : Nat → Prop} {es : List En} {bs : List Nat} {q : Nat} {ve vb : Value} {mo : Option Nat} (h : ScW w g S es bs ve vb mo q) (hq : q ≤ 900) (s : ByteArray) (hs : s.size ≤ 1000) (f t k : Int) (hge : (beg bs : Int) ≤ plc s es) :
    Calls Try.prog 12 #[.pointer (some ⟨g, 0, none⟩), .string s, .agg #[.int .i64 f, .int .i64 t, .int .i64 k]] w fun e w' => e = .returned (.bool false) ∧ Below w.heap.size w w' := by
  have hb0 := below_alloc w (.cells #[.int .i64 f, .int .i64 t, .int .i64 k] 34 (0, 0))
  have h1 := h.below hb0
  have hP := place_any h1 s hs
  have hG := begin_any h1 (by omega)
  generalize hq_W : w.alloc (.cells #[.int .i64 f, .int .i64 t, .int .i64 k] 34 (0, 0)) = W at *
  generalize plc s es = pp at *
  clear h h1
  replace hP := hide hP
  replace hG := hide hG
  replace hb0 := hide hb0
  go_enter Try.func12, Try.ntmps12
  go_wp2_with fail
  refine (unhide hP).mono ?_
  rintro e w1 ⟨rfl, rfl⟩
  go_wp2_with fail
  refine (unhide hG).mono ?_
  rintro e w2 ⟨rfl, n, rfl⟩
  go_wp2
  go_ret
  exact ⟨rfl, below_drewN (unhide hb0) _⟩
set_option maxHeartbeats 2000000 in
set_option maxRecDepth 100000 in
theorem add_some {w : World} {g : Nat} {S : Nat → Prop} {es : List En} {bs : List Nat} {q : Nat} {ae ab : Option Addr} {ce cb : Nat} {b : Nat} (h : ScW w g S es bs (.slice ae es.length ce) (.slice ab bs.length cb) (some b) q) (hq : q ≤ 900) (s : ByteArray) (hs : s.size ≤ 1000) (f t k : Int) (hlt : plc s es < beg bs) :
    Calls Try.prog 12 #[.pointer (some ⟨g, 0, none⟩), .string s, .agg #[.int .i64 f, .int .i64 t, .int .i64 k]] w fun e w' => e = .returned (.bool true) ∧ ResS w g S (es ++ [⟨s, f, t, k, plc s es⟩]) bs (q + 2) w' := by
  have hb0 := below_alloc w (.cells #[.int .i64 f, .int .i64 t, .int .i64 k] 34 (0, 0))
  have hDb : DBlk (w.alloc (.cells #[.int .i64 f, .int .i64 t, .int .i64 k] 34 (0, 0))) w.heap.size f t k := heap_alloc_new w _
  have hz8 : w.heap.size < (w.alloc (.cells #[.int .i64 f, .int .i64 t, .int .i64 k] 34 (0, 0))).heap.size := by simp
  have h1 := h.below hb0
  have hP := place_any h1 s hs
  have hG0 := begin_any h1 (by omega)
  have hfew := h.few
  have hlts := h.lt
  have hse := h.se
  have hsb := h.sb
  have hEG : ∀ k, (Value.slice ae es.length ce).ownBlock = some k → ¬ (Value.slice ab bs.length cb).ownBlock = some k := fun k h2 h3 => h.eb h2 h3
  have hgE : ∀ k, (Value.slice ae es.length ce).ownBlock = some k → k ≠ w.heap.size := fun k h2 => by have := hlts k (hse k h2); omega
  have hS := h1.blk
  have hE := h1.ens
  have hG := h1.bgs
  have hm := h1.map
  have hK8 : Kp (fun x => x = g ∨ some b = some x) w (w.alloc (.cells #[.int .i64 f, .int .i64 t, .int .i64 k] 34 (0, 0))) := Kp.of_below hb0
  have hh := hide h
  have hgb := hlts g h.sg
  obtain ⟨pp, hpp⟩ : ∃ pp, plc s es = pp := ⟨_, rfl⟩
  rw [hpp] at hP
  have hlt' := hlt
  rw [hpp] at hlt'
  replace hpp := hide hpp
  simp only [MapOk] at hm
  clear h h1
  obtain ⟨hgm, m, hM, hmq⟩ := hm
  have hbE : ∀ k, (Value.slice ae es.length ce).ownBlock = some k → k = b → False := fun k h2 h3 => by subst h3; exact (unhide hh).em h2 rfl
  have hbG : ∀ k, (Value.slice ab bs.length cb).ownBlock = some k → k = b → False := fun k h2 h3 => by subst h3; exact (unhide hh).bm h2 rfl
  have hbN : (some b : Option Nat) = some b ∨ w.heap.size ≤ b := .inl rfl
  have hbl : b < w.heap.size := hlts b ((unhide hh).sm b rfl)
  generalize hq0 : w.alloc (.cells #[.int .i64 f, .int .i64 t, .int .i64 k] 34 (0, 0)) = W0 at *
  obtain ⟨gb, hgbe⟩ : ∃ x, w.heap.size = x := ⟨_, rfl⟩
  rw [hgbe] at hDb hz8 hgb
  simp only [hgbe] at hgE
  have hgE' := hide hgE
  replace hP := hide hP
  replace hG0 := hide hG0
  go_enter Try.func12, Try.ntmps12
  go_wp2_with fail
  clear hq0
  refine (unhide hP).mono ?_
  rintro e w1 ⟨rfl, rfl⟩
  go_wp2_with fail
  refine (unhide hG0).mono ?_
  rintro e w2 ⟨rfl, n, rfl⟩
  clear hP hG0 hb0
  replace hS : Blk3 (World.drewN _ n) g (.slice ae es.length ce) (.slice ab bs.length cb) (some b) := hS
  replace hE : OwnEn (World.drewN _ n) (g + 1) (.slice ae es.length ce) es := hE
  replace hG : OwnB (World.drewN _ n) (g + 1) (.slice ab bs.length cb) bs := hG
  replace hM : MapF (World.drewN _ n) b m (fun s => plc s es) := hM
  replace hK8 : Kp (fun x => x = g ∨ some b = some x) w (World.drewN _ n) := ⟨hK8.os, hK8.tape, hK8.output, hK8.size, hK8.block⟩
  replace hDb : DBlk (World.drewN _ n) gb f t k := hDb
  replace hz8 : gb < (World.drewN _ n).heap.size := hz8
  generalize World.drewN _ n = W8 at *
  have c2 := hS.c2
  have hnil := fun (r : Option Nat) (w : World) => run_eql_map_nil (P := Try.prog) w 46 9 3 r Try.underlying46
  go_wp2
  clear c2 hnil
  refine wp_region_D (fun w' => Blk3 w' g (.slice ae es.length ce) (.slice ab bs.length cb) (some b)) (fun j => [10].contains j) (by kernel_rfl) ?_
  replace hS : Blk3 W8.drew g (.slice ae es.length ce) (.slice ab bs.length cb) (some b) := hS
  replace hM : MapF W8.drew b m (fun s => plc s es) := hM
  replace hE : OwnEn W8.drew (g + 1) (.slice ae es.length ce) es := hE
  replace hG : OwnB W8.drew (g + 1) (.slice ab bs.length cb) bs := hG
  replace hK8 : Kp (fun x => x = g ∨ (some b : Option Nat) = some x) w W8.drew := hK8.drew
  replace hDb : DBlk W8.drew gb f t k := hDb
  replace hz8 : gb < W8.drew.heap.size := hz8
  generalize World.drew W8 = W at *
  refine wpAnyD_takeC (i := 0) (v := .pointer (some ⟨g, 0, none⟩)) [10] (fun _ => rfl) rfl (by kernel_rfl) 2 (by kernel_rfl) rfl (by kernel_rfl) (by kernel_rfl) (by kernel_rfl) (fun _ _ _ h => h) (Or.inl ⟨by kernel_rfl, ?_⟩) hS ?_
  · intro w hSw; go_simp
  try simp only [List.getElem_toArray, List.getElem_cons_succ, List.getElem_cons_zero, Act.put, List.setIfInBounds_toArray, List.set_cons_zero, List.set_cons_succ]
  refine wpAnyD_takeC (i := 1) (v := .pointer (some ⟨g, 0, none⟩)) [10] (fun _ => rfl) rfl (by kernel_rfl) 2 (by kernel_rfl) rfl (by kernel_rfl) (by kernel_rfl) (by kernel_rfl) (fun _ _ _ h => h) (Or.inl ⟨by kernel_rfl, ?_⟩) hS ?_
  · intro w hSw; go_simp
  try simp only [List.getElem_toArray, List.getElem_cons_succ, List.getElem_cons_zero, Act.put, List.setIfInBounds_toArray, List.set_cons_zero, List.set_cons_succ]
  refine wpAnyD_takeC (i := 2) (v := .pointer (some ⟨g, 2, none⟩)) [10] (fun _ => rfl) rfl (by kernel_rfl) 2 (by kernel_rfl) rfl (by kernel_rfl) (by kernel_rfl) (by kernel_rfl) (fun _ _ _ h => h) (Or.inl ⟨by kernel_rfl, ?_⟩) hS ?_
  · intro w hSw; go_simp
  try simp only [List.getElem_toArray, List.getElem_cons_succ, List.getElem_cons_zero, Act.put, List.setIfInBounds_toArray, List.set_cons_zero, List.set_cons_succ]
  refine wpAnyD_takeC (i := 3) (v := .map (some b)) [10] (fun _ => rfl) rfl (by kernel_rfl) 2 (by kernel_rfl) rfl (by kernel_rfl) (by kernel_rfl) (by kernel_rfl) (fun _ _ _ h => h) (Or.inl ⟨by kernel_rfl, ?_⟩) hS ?_
  · intro w hSw; have hc := Blk3.c2 hSw; go_simp
  try simp only [List.getElem_toArray, List.getElem_cons_succ, List.getElem_cons_zero, Act.put, List.setIfInBounds_toArray, List.set_cons_zero, List.set_cons_succ]
  refine wpAnyD_takeC (i := 4) (v := .string s) [10] (fun _ => rfl) rfl (by kernel_rfl) 2 (by kernel_rfl) rfl (by kernel_rfl) (by kernel_rfl) (by kernel_rfl) (fun _ _ _ h => h) (Or.inl ⟨by kernel_rfl, ?_⟩) hS ?_
  · intro w hSw; go_simp
  try simp only [List.getElem_toArray, List.getElem_cons_succ, List.getElem_cons_zero, Act.put, List.setIfInBounds_toArray, List.set_cons_zero, List.set_cons_succ]
  refine wpAnyD_takeC (i := 5) (v := .pointer (some ⟨g, 0, none⟩)) [10] (fun _ => rfl) rfl (by kernel_rfl) 2 (by kernel_rfl) rfl (by kernel_rfl) (by kernel_rfl) (by kernel_rfl) (fun _ _ _ h => h) (Or.inl ⟨by kernel_rfl, ?_⟩) hS ?_
  · intro w hSw; go_simp
  try simp only [List.getElem_toArray, List.getElem_cons_succ, List.getElem_cons_zero, Act.put, List.setIfInBounds_toArray, List.set_cons_zero, List.set_cons_succ]
  refine wpAnyD_takeC (i := 6) (v := .pointer (some ⟨g, 0, none⟩)) [10] (fun _ => rfl) rfl (by kernel_rfl) 2 (by kernel_rfl) rfl (by kernel_rfl) (by kernel_rfl) (by kernel_rfl) (fun _ _ _ h => h) (Or.inl ⟨by kernel_rfl, ?_⟩) hS ?_
  · intro w hSw; go_simp
  try simp only [List.getElem_toArray, List.getElem_cons_succ, List.getElem_cons_zero, Act.put, List.setIfInBounds_toArray, List.set_cons_zero, List.set_cons_succ]
  refine wpAnyD_takeC (i := 7) (v := .pointer (some ⟨g, 0, none⟩)) [10] (fun _ => rfl) rfl (by kernel_rfl) 2 (by kernel_rfl) rfl (by kernel_rfl) (by kernel_rfl) (by kernel_rfl) (fun _ _ _ h => h) (Or.inl ⟨by kernel_rfl, ?_⟩) hS ?_
  · intro w hSw; go_simp
  try simp only [List.getElem_toArray, List.getElem_cons_succ, List.getElem_cons_zero, Act.put, List.setIfInBounds_toArray, List.set_cons_zero, List.set_cons_succ]
  refine wpAnyD_takeC (i := 8) (v := .slice ae es.length ce) [10] (fun _ => rfl) rfl (by kernel_rfl) 2 (by kernel_rfl) rfl (by kernel_rfl) (by kernel_rfl) (by kernel_rfl) (fun _ _ _ h => h) (Or.inl ⟨by kernel_rfl, ?_⟩) hS ?_
  · intro w hSw; have hc := Blk3.c0 hSw; go_simp
  try simp only [List.getElem_toArray, List.getElem_cons_succ, List.getElem_cons_zero, Act.put, List.setIfInBounds_toArray, List.set_cons_zero, List.set_cons_succ]
  refine wpAnyD_takeC (i := 9) (v := .int .i64 es.length) [10] (fun _ => rfl) rfl (by kernel_rfl) 2 (by kernel_rfl) rfl (by kernel_rfl) (by kernel_rfl) (by kernel_rfl) (fun _ _ _ h => h) (Or.inl ⟨by kernel_rfl, ?_⟩) hS ?_
  · intro w hSw; go_simp
  try simp only [List.getElem_toArray, List.getElem_cons_succ, List.getElem_cons_zero, Act.put, List.setIfInBounds_toArray, List.set_cons_zero, List.set_cons_succ]
  refine wpAnyD_one (i := 10) rfl (by kernel_rfl) (fun K hK => ?_)
  replace hK := hide hK
  rw [if_pos (by kernel_rfl)]
  refine wp_mapPut (.tmp 29) (.tmp 30) (.tmp 35) rfl rfl s rfl es.length rfl hM hs (by omega) (by omega) (by omega) ?_
  intro W9 hM9 hg9
  have hS9 : Blk3 W9 g (.slice ae es.length ce) (.slice ab bs.length cb) (some b) := hS.grown hg9 (fun e => by injection e with e; omega)
  have hE9 : OwnEn W9 (g + 1) (.slice ae es.length ce) es := ownsRow_keep hE (fun k hk => hg9.block k (by
    obtain ⟨_, cur, e1⟩ := own_blk hE hk
    exact (Array.getElem?_eq_some_iff.1 e1).1) (fun e => by injection e with e; exact hbE k hk e))
  have hG9 : OwnB W9 (g + 1) (.slice ab bs.length cb) bs := ownsRow_keep hG (fun k hk => hg9.block k (by
    obtain ⟨_, cur, e1⟩ := own_blk hG hk
    exact (Array.getElem?_eq_some_iff.1 e1).1) (fun e => by injection e with e; exact hbG k hk e))
  have hD9 : DBlk W9 gb f t k := by
    unfold DBlk at hDb ⊢
    rw [hg9.block gb hz8 (fun e => by injection e with e; omega)]
    exact hDb
  have hK9 : Kp (fun x => x = g ∨ (some b : Option Nat) = some x) w W9 := hK8.grown hg9 (fun k hk => by injection hk with hk; subst hk; first | (left; right; rfl) | (right; omega))
  have hz9 : gb < W9.heap.size := Nat.lt_of_lt_of_le hz8 hg9.size
  refine unhide hK _ _ (fun h => by cases h) ?_
  clear hK K hS hM hE hG hDb hK8 hg9 hz8
  try simp only [List.getElem_toArray, List.getElem_cons_succ, List.getElem_cons_zero, Act.put, List.setIfInBounds_toArray, List.set_cons_zero, List.set_cons_succ]
  refine wpAnyD_done (by kernel_rfl) ?_ _
  go_wp2
  refine wp_region_D (fun w' => Blk3 w' g (.slice ae es.length ce) (.slice ab bs.length cb) (some b) ∧ DBlk w' gb f t k) (fun j => [13].contains j) (by kernel_rfl) ?_
  have hS : Blk3 W9.drew g (.slice ae es.length ce) (.slice ab bs.length cb) (some b) ∧ DBlk W9.drew gb f t k := ⟨hS9, hD9⟩
  replace hM9 : MapF W9.drew b (m + 1) (fun t => if s = t then (es.length : Int) else plc t es) := hM9
  replace hE9 : OwnEn W9.drew (g + 1) (.slice ae es.length ce) es := hE9
  replace hG9 : OwnB W9.drew (g + 1) (.slice ab bs.length cb) bs := hG9
  replace hK9 : Kp (fun x => x = g ∨ (some b : Option Nat) = some x) w W9.drew := hK9.drew
  replace hz9 : gb < W9.drew.heap.size := hz9
  clear hS9 hD9
  generalize World.drew W9 = W at *
  refine wpAnyD_takeC (i := 0) (v := .pointer (some ⟨g, 0, none⟩)) [13] (fun _ => rfl) rfl (by kernel_rfl) 2 (by kernel_rfl) rfl (by kernel_rfl) (by kernel_rfl) (by kernel_rfl) (fun _ _ _ h => h) (Or.inl ⟨by kernel_rfl, ?_⟩) hS ?_
  · intro w hSw; go_simp
  try simp only [List.getElem_toArray, List.getElem_cons_succ, List.getElem_cons_zero, Act.put, List.setIfInBounds_toArray, List.set_cons_zero, List.set_cons_succ]
  refine wpAnyD_takeC (i := 1) (v := .pointer (some ⟨g, 0, none⟩)) [13] (fun _ => rfl) rfl (by kernel_rfl) 2 (by kernel_rfl) rfl (by kernel_rfl) (by kernel_rfl) (by kernel_rfl) (fun _ _ _ h => h) (Or.inl ⟨by kernel_rfl, ?_⟩) hS ?_
  · intro w hSw; go_simp
  try simp only [List.getElem_toArray, List.getElem_cons_succ, List.getElem_cons_zero, Act.put, List.setIfInBounds_toArray, List.set_cons_zero, List.set_cons_succ]
  refine wpAnyD_takeC (i := 2) (v := .pointer (some ⟨g, 0, none⟩)) [13] (fun _ => rfl) rfl (by kernel_rfl) 2 (by kernel_rfl) rfl (by kernel_rfl) (by kernel_rfl) (by kernel_rfl) (fun _ _ _ h => h) (Or.inl ⟨by kernel_rfl, ?_⟩) hS ?_
  · intro w hSw; go_simp
  try simp only [List.getElem_toArray, List.getElem_cons_succ, List.getElem_cons_zero, Act.put, List.setIfInBounds_toArray, List.set_cons_zero, List.set_cons_succ]
  refine wpAnyD_takeC (i := 3) (v := .pointer (some ⟨g, 0, none⟩)) [13] (fun _ => rfl) rfl (by kernel_rfl) 2 (by kernel_rfl) rfl (by kernel_rfl) (by kernel_rfl) (by kernel_rfl) (fun _ _ _ h => h) (Or.inl ⟨by kernel_rfl, ?_⟩) hS ?_
  · intro w hSw; go_simp
  try simp only [List.getElem_toArray, List.getElem_cons_succ, List.getElem_cons_zero, Act.put, List.setIfInBounds_toArray, List.set_cons_zero, List.set_cons_succ]
  refine wpAnyD_takeC (i := 4) (v := .slice ae es.length ce) [13] (fun _ => rfl) rfl (by kernel_rfl) 2 (by kernel_rfl) rfl (by kernel_rfl) (by kernel_rfl) (by kernel_rfl) (fun _ _ _ h => h) (Or.inl ⟨by kernel_rfl, ?_⟩) hS ?_
  · intro w hSw; have hc := Blk3.c0 hSw.1; go_simp
  try simp only [List.getElem_toArray, List.getElem_cons_succ, List.getElem_cons_zero, Act.put, List.setIfInBounds_toArray, List.set_cons_zero, List.set_cons_succ]
  refine wpAnyD_takeC (i := 5) (v := .string s) [13] (fun _ => rfl) rfl (by kernel_rfl) 2 (by kernel_rfl) rfl (by kernel_rfl) (by kernel_rfl) (by kernel_rfl) (fun _ _ _ h => h) (Or.inl ⟨by kernel_rfl, ?_⟩) hS ?_
  · intro w hSw; go_simp
  try simp only [List.getElem_toArray, List.getElem_cons_succ, List.getElem_cons_zero, Act.put, List.setIfInBounds_toArray, List.set_cons_zero, List.set_cons_succ]
  refine wpAnyD_takeC (i := 6) (v := .agg #[.int .i64 f, .int .i64 t, .int .i64 k]) [13] (fun _ => rfl) rfl (by kernel_rfl) 2 (by kernel_rfl) rfl (by kernel_rfl) (by kernel_rfl) (by kernel_rfl) (fun _ _ _ h => h) (Or.inl ⟨by kernel_rfl, ?_⟩) hS ?_
  · intro w hSw; have hd := DBlk.cells hSw.2; obtain ⟨hd0, hd1, hd2⟩ := hd; go_simp
  try simp only [List.getElem_toArray, List.getElem_cons_succ, List.getElem_cons_zero, Act.put, List.setIfInBounds_toArray, List.set_cons_zero, List.set_cons_succ]
  refine wpAnyD_takeC (i := 7) (v := .int .i64 pp) [13] (fun _ => rfl) rfl (by kernel_rfl) 2 (by kernel_rfl) rfl (by kernel_rfl) (by kernel_rfl) (by kernel_rfl) (fun _ _ _ h => h) (Or.inl ⟨by kernel_rfl, ?_⟩) hS ?_
  · intro w hSw; go_simp
  try simp only [List.getElem_toArray, List.getElem_cons_succ, List.getElem_cons_zero, Act.put, List.setIfInBounds_toArray, List.set_cons_zero, List.set_cons_succ]
  refine wpAnyD_takeC (i := 8) (v := .agg #[.string s, .int .i64 f, .int .i64 t, .int .i64 k, .int .i64 pp]) [13] (fun _ => rfl) rfl (by kernel_rfl) 2 (by kernel_rfl) rfl (by kernel_rfl) (by kernel_rfl) (by kernel_rfl) (fun _ _ _ h => h) (Or.inl ⟨by kernel_rfl, ?_⟩) hS ?_
  · intro w hSw; go_simp
  try simp only [List.getElem_toArray, List.getElem_cons_succ, List.getElem_cons_zero, Act.put, List.setIfInBounds_toArray, List.set_cons_zero, List.set_cons_succ]
  refine wpAnyD_one (i := 9) rfl (by kernel_rfl) (fun K hK => ?_)
  replace hK := hide hK
  go_simp
  have hS1 : Blk3 (W.alloc (.cells #[.string s, .int .i64 f, .int .i64 t, .int .i64 k, .int .i64 pp] 50 (0, 0))) g (.slice ae es.length ce) (.slice ab bs.length cb) (some b) := hS.1.grown (grown_alloc W _) (by simp)
  have hD1 : DBlk (W.alloc (.cells #[.string s, .int .i64 f, .int .i64 t, .int .i64 k, .int .i64 pp] 50 (0, 0))) gb f t k := by
    have h9 := hS.2
    unfold DBlk at h9 ⊢
    rw [(grown_alloc W _).block gb hz9 (by simp)]
    exact h9
  have ho1 : OwnEn (W.alloc (.cells #[.string s, .int .i64 f, .int .i64 t, .int .i64 k, .int .i64 pp] 50 (0, 0))) (g + 1) (.slice ae es.length ce) es := World.ownsRow.alloc hE9 _
  have hG1 : OwnB (W.alloc (.cells #[.string s, .int .i64 f, .int .i64 t, .int .i64 k, .int .i64 pp] 50 (0, 0))) (g + 1) (.slice ab bs.length cb) bs := World.ownsRow.alloc hG9 _
  have hM1 : MapF (W.alloc (.cells #[.string s, .int .i64 f, .int .i64 t, .int .i64 k, .int .i64 pp] 50 (0, 0))) b (m + 1) (fun t => if s = t then (es.length : Int) else plc t es) := hM9.kept ((grown_alloc W _).block b hM9.lt (by simp))
  have hk1 : Kp (fun x => x = g ∨ (some b : Option Nat) = some x) w (W.alloc (.cells #[.string s, .int .i64 f, .int .i64 t, .int .i64 k, .int .i64 pp] 50 (0, 0))) := hK9.grown (grown_alloc W _) (by simp)
  have hn1 := new_en W ⟨s, f, t, k, pp⟩ (0, 0)
  have hWw : w.heap.size ≤ W.heap.size := hK9.size
  have hbl : g + 1 ≤ W.heap.size := hS.1.lt
  have hs1 : (W.alloc (.cells #[.string s, .int .i64 f, .int .i64 t, .int .i64 k, .int .i64 pp] 50 (0, 0))).heap.size = W.heap.size + 1 := by simp
  have hz1 : gb < W.heap.size := hz9
  refine unhide hK _ _ (fun _ => ⟨hS1, hD1⟩) ?_
  clear hK K hS hE9 hG9 hM9 hK9 hz9
  dsimp only at hn1
  generalize W.alloc (.cells #[.string s, .int .i64 f, .int .i64 t, .int .i64 k, .int .i64 pp] 50 (0, 0)) = W1 at *
  generalize W.heap.size = z at *
  try simp only [List.getElem_toArray, List.getElem_cons_succ, List.getElem_cons_zero, Act.put, List.setIfInBounds_toArray, List.set_cons_zero, List.set_cons_succ]
  refine wpAnyD_one (i := 10) rfl (by kernel_rfl) (fun K hK => ?_)
  replace hK := hide hK
  rw [if_pos (by kernel_rfl)]
  obtain ⟨i0, hi, hz0, hz3, hz4⟩ := info_parts Try.info50
  refine wp_append_lies W1 _ _ 45 rfl (g + 1) 50 i0 _ 5 48 Try.underlying45 hi hz0 hz3 hz4 rfl (by decide) (.slice ae es.length ce) es.length (ensC es) rfl ho1 ⟨z, 0, none⟩ 1 1 (En.cells ⟨s, f, t, k, pp⟩) rfl rfl hn1 (one_en _) (by omega) (by unfold maxLen; omega) (by omega) (by omega) _ rfl ?_
  intro gn cap W2 hown2 hg2 hat hlt2
  have hS2 : Blk3 W2 g (.slice ae es.length ce) (.slice ab bs.length cb) (some b) := hS1.grown hg2 (fun e => by have := (own_blk ho1 e).1; omega)
  have hD2 : DBlk W2 gb f t k := by
    unfold DBlk at hD1 ⊢
    rw [hg2.block gb (by omega) (fun e => hgE gb e.symm rfl)]
    exact hD1
  have hk2 : Kp (fun x => x = g ∨ (some b : Option Nat) = some x ∨ (Value.slice ae es.length ce).ownBlock = some x) w W2 := (hk1.mono (fun x hx => by rcases hx with h1 | h1 <;> simp [h1])).grown hg2 (fun k hk => .inl (.inr (.inr hk)))
  have hM2 : MapF W2 b (m + 1) (fun t => if s = t then (es.length : Int) else plc t es) := hM1.kept (hg2.block b hM1.lt (fun e => hbE b e.symm rfl))
  have hG2 : OwnB W2 (g + 1) (.slice ab bs.length cb) bs := ownsRow_keep hG1 (fun k hk => hg2.block k (by
    obtain ⟨_, cur, e1⟩ := own_blk hG1 hk
    exact (Array.getElem?_eq_some_iff.1 e1).1) (fun e => hEG k e.symm hk))
  have hrow2 : OwnEn W2 (g + 1) (.slice (some ⟨gn, 0, none⟩) (es.length + 1) cap) (es ++ [⟨s, f, t, k, pp⟩]) := by
    unfold OwnEn
    rw [ensC_snoc, List.length_append]
    exact hown2
  have hgn := (own_blk hrow2 (k := gn) rfl).1
  refine unhide hK _ _ (fun _ => ⟨hS2, hD2⟩) ?_
  have hS : Blk3 W2 g (.slice ae es.length ce) (.slice ab bs.length cb) (some b) ∧ DBlk W2 gb f t k := ⟨hS2, hD2⟩
  have hf2 := hS2.fr 0
  have hc2 := hS2.c0
  have hfin : Hid (∃ W3, W3 = W2.setCell ⟨g, 0, none⟩ (.slice (some ⟨gn, 0, none⟩) (es.length + 1) cap) ∧ Blk3 W3 g (.slice (some ⟨gn, 0, none⟩) (es.length + 1) cap) (.slice ab bs.length cb) (some b) ∧ OwnEn W3 (g + 1) (.slice (some ⟨gn, 0, none⟩) (es.length + 1) cap) (es ++ [⟨s, f, t, k, pp⟩]) ∧ OwnB W3 (g + 1) (.slice ab bs.length cb) bs ∧ MapF W3 b (m + 1) (fun t => if s = t then (es.length : Int) else plc t es) ∧ Kp (fun x => x = g ∨ (some b : Option Nat) = some x ∨ (Value.slice ae es.length ce).ownBlock = some x) w W3) := hide ⟨_, rfl, hS2.set0 _, ownsRow_keep hrow2 (fun k hk => Below.heap_setCell _ _ _ k (fun e => by
      have e1 : gn = k := by simpa [Value.ownBlock] using hk
      dsimp only at e
      omega)), ownsRow_keep hG2 (fun k hk => Below.heap_setCell _ _ _ k (fun e => by
      have e1 := (own_blk hG2 hk).1
      dsimp only at e
      omega)), hM2.kept (Below.heap_setCell _ _ _ b (fun e => by
      dsimp only at e
      omega)), hk2.set (.inl (.inl rfl)) _ _⟩
  clear hK K hown2 hS1 hD1 ho1 hn1 hG1 hM1
  try simp only [List.getElem_toArray, List.getElem_cons_succ, List.getElem_cons_zero, Act.put, List.setIfInBounds_toArray, List.set_cons_zero, List.set_cons_succ]
  refine wpAnyD_takeC (i := 11) (v := .pointer (some ⟨g, 0, none⟩)) [13] (fun _ => rfl) rfl (by kernel_rfl) 2 (by kernel_rfl) rfl (by kernel_rfl) (by kernel_rfl) (by kernel_rfl) (fun _ _ _ h => h) (Or.inl ⟨by kernel_rfl, ?_⟩) hS ?_
  · intro w hSw; go_simp
  try simp only [List.getElem_toArray, List.getElem_cons_succ, List.getElem_cons_zero, Act.put, List.setIfInBounds_toArray, List.set_cons_zero, List.set_cons_succ]
  refine wpAnyD_takeC (i := 12) (v := .pointer (some ⟨g, 0, none⟩)) [13] (fun _ => rfl) rfl (by kernel_rfl) 2 (by kernel_rfl) rfl (by kernel_rfl) (by kernel_rfl) (by kernel_rfl) (fun _ _ _ h => h) (Or.inl ⟨by kernel_rfl, ?_⟩) hS ?_
  · intro w hSw; go_simp
  try simp only [List.getElem_toArray, List.getElem_cons_succ, List.getElem_cons_zero, Act.put, List.setIfInBounds_toArray, List.set_cons_zero, List.set_cons_succ]
  refine wpAnyD_one (i := 13) rfl (by kernel_rfl) (fun K hK => ?_)
  replace hK := hide hK
  go_simp
  refine unhide hK _ _ (fun h => by cases h) ?_
  obtain ⟨W3, hW3, f1, f2, f3, f4, f5⟩ := unhide hfin
  rw [← hW3]
  clear hK K
  refine wpAnyD_done (by kernel_rfl) ?_ _
  go_wp2
  go_ret
  have h := unhide hh
  have hpl : ∀ x, plc x (es ++ [⟨s, f, t, k, plc s es⟩]) = if s = x then (es.length : Int) else plc x es := fun x => plc_snoc x es _
  rw [← unhide hpp] at f2
  obtain ⟨S', g1, g2⟩ := h.turn f5.size f1 f2 f3 (mo' := some b) (q' := q + 2) (by
    simp only [MapOk]
    exact ⟨by omega, m + 1, f4.ext hpl, by simp; omega⟩) (by
    intro k' hk'
    have e1 : gn = k' := by simpa [Value.ownBlock] using hk'
    subst e1
    rcases hat with h1 | h1
    · exact .inl (h.se _ h1)
    · exact .inr (by omega)) (fun k' hk' => .inl (h.sb k' hk')) (by
    intro k' hk'
    injection hk' with hk'
    subst hk'
    first
      | exact .inl (h.sm _ rfl)
      | exact .inr (by omega)) (h.inv.add f t k hlt) (by
    have := h.few
    simp
    omega) (by
    intro e he
    rcases List.mem_append.1 he with h1 | h1
    · exact h.nm e h1
    · simp at h1
      subst h1
      exact hs)
  refine ⟨rfl, S', ⟨_, _, _, g1⟩, g2, f5.mono ?_⟩
  rintro x (rfl | h1 | h1)
  · exact h.sg
  · exact h.sm x h1
  · exact h.se x h1
set_option maxHeartbeats 2000000 in
set_option maxRecDepth 100000 in
theorem add_none {w : World} {g : Nat} {S : Nat → Prop} {es : List En} {bs : List Nat} {q : Nat} {ae ab : Option Addr} {ce cb : Nat} (h : ScW w g S es bs (.slice ae es.length ce) (.slice ab bs.length cb) none q) (hq : q ≤ 900) (s : ByteArray) (hs : s.size ≤ 1000) (f t k : Int) (hlt : plc s es < beg bs) :
    Calls Try.prog 12 #[.pointer (some ⟨g, 0, none⟩), .string s, .agg #[.int .i64 f, .int .i64 t, .int .i64 k]] w fun e w' => e = .returned (.bool true) ∧ ResS w g S (es ++ [⟨s, f, t, k, plc s es⟩]) bs (q + 2) w' := by
  have hb0 := below_alloc w (.cells #[.int .i64 f, .int .i64 t, .int .i64 k] 34 (0, 0))
  have hDb : DBlk (w.alloc (.cells #[.int .i64 f, .int .i64 t, .int .i64 k] 34 (0, 0))) w.heap.size f t k := heap_alloc_new w _
  have hz8 : w.heap.size < (w.alloc (.cells #[.int .i64 f, .int .i64 t, .int .i64 k] 34 (0, 0))).heap.size := by simp
  have h1 := h.below hb0
  have hP := place_any h1 s hs
  have hG0 := begin_any h1 (by omega)
  have hfew := h.few
  have hlts := h.lt
  have hse := h.se
  have hsb := h.sb
  have hEG : ∀ k, (Value.slice ae es.length ce).ownBlock = some k → ¬ (Value.slice ab bs.length cb).ownBlock = some k := fun k h2 h3 => h.eb h2 h3
  have hgE : ∀ k, (Value.slice ae es.length ce).ownBlock = some k → k ≠ w.heap.size := fun k h2 => by have := hlts k (hse k h2); omega
  have hS := h1.blk
  have hE := h1.ens
  have hG := h1.bgs
  have hm := h1.map
  have hK8 : Kp (fun x => x = g ∨ none = some x) w (w.alloc (.cells #[.int .i64 f, .int .i64 t, .int .i64 k] 34 (0, 0))) := Kp.of_below hb0
  have hh := hide h
  have hgb := hlts g h.sg
  obtain ⟨pp, hpp⟩ : ∃ pp, plc s es = pp := ⟨_, rfl⟩
  rw [hpp] at hP
  have hlt' := hlt
  rw [hpp] at hlt'
  replace hpp := hide hpp
  simp only [MapOk] at hm
  clear h h1
  have hneg : ∀ x, plc x es < 0 := fun x => by rw [hm]; simp [plc_nil]
  clear hm
  generalize hq0 : w.alloc (.cells #[.int .i64 f, .int .i64 t, .int .i64 k] 34 (0, 0)) = W0 at *
  obtain ⟨gb, hgbe⟩ : ∃ x, w.heap.size = x := ⟨_, rfl⟩
  rw [hgbe] at hDb hz8 hgb
  simp only [hgbe] at hgE
  replace hP := hide hP
  replace hG0 := hide hG0
  go_enter Try.func12, Try.ntmps12
  go_wp2_with fail
  clear hq0
  refine (unhide hP).mono ?_
  rintro e w1 ⟨rfl, rfl⟩
  go_wp2_with fail
  refine (unhide hG0).mono ?_
  rintro e w2 ⟨rfl, n, rfl⟩
  clear hP hG0 hb0
  replace hS : Blk3 (World.drewN _ n) g (.slice ae es.length ce) (.slice ab bs.length cb) none := hS
  replace hE : OwnEn (World.drewN _ n) (g + 1) (.slice ae es.length ce) es := hE
  replace hG : OwnB (World.drewN _ n) (g + 1) (.slice ab bs.length cb) bs := hG
  replace hK8 : Kp (fun x => x = g ∨ (none : Option Nat) = some x) w (World.drewN _ n) := ⟨hK8.os, hK8.tape, hK8.output, hK8.size, hK8.block⟩
  replace hDb : DBlk (World.drewN _ n) gb f t k := hDb
  replace hz8 : gb < (World.drewN _ n).heap.size := hz8
  generalize World.drewN _ n = W8 at *
  have c2 := hS.c2
  have f2 := hS.fr 2
  have hnil := fun (r : Option Nat) (w : World) => run_eql_map_nil (P := Try.prog) w 46 9 3 r Try.underlying46
  have hmm := @run_makeMap Try.prog
  have hvs : (W8.setCell ⟨g, 2, none⟩ (.map (some W8.heap.size))).heap.size = W8.heap.size := by simp
  have hgl : g < W8.heap.size := hS.lt
  have hS2 : Blk3 ((W8.setCell ⟨g, 2, none⟩ (.map (some W8.heap.size))).alloc (.map #[] 0)) g (.slice ae es.length ce) (.slice ab bs.length cb) (some W8.heap.size) := (hS.set2 _).grown (grown_alloc _ _) (by simp)
  have hrow : ∀ k, k < W8.heap.size → k ≠ g → ((W8.setCell ⟨g, 2, none⟩ (.map (some W8.heap.size))).alloc (.map #[] 0)).heap[k]? = W8.heap[k]? := fun k h1 h2 => by
    rw [(grown_alloc (W8.setCell ⟨g, 2, none⟩ (.map (some W8.heap.size))) _).block k (by rw [hvs]; exact h1) (by simp)]
    exact Below.heap_setCell _ _ _ k h2
  have hE2 : OwnEn ((W8.setCell ⟨g, 2, none⟩ (.map (some W8.heap.size))).alloc (.map #[] 0)) (g + 1) (.slice ae es.length ce) es := ownsRow_keep hE (fun k hk => by
    obtain ⟨h1, cur, e1⟩ := own_blk hE hk
    exact hrow k (Array.getElem?_eq_some_iff.1 e1).1 (by omega))
  have hG2 : OwnB ((W8.setCell ⟨g, 2, none⟩ (.map (some W8.heap.size))).alloc (.map #[] 0)) (g + 1) (.slice ab bs.length cb) bs := ownsRow_keep hG (fun k hk => by
    obtain ⟨h1, cur, e1⟩ := own_blk hG hk
    exact hrow k (Array.getElem?_eq_some_iff.1 e1).1 (by omega))
  have hM2 : MapF ((W8.setCell ⟨g, 2, none⟩ (.map (some W8.heap.size))).alloc (.map #[] 0)) W8.heap.size 0 (fun s => plc s es) := by
    have h9 := mapF_new (W8.setCell ⟨g, 2, none⟩ (.map (some W8.heap.size))) _ hneg
    rw [hvs] at h9
    exact h9
  have hK2 : Kp (fun x => x = g ∨ (none : Option Nat) = some x) w ((W8.setCell ⟨g, 2, none⟩ (.map (some W8.heap.size))).alloc (.map #[] 0)) := (hK8.set (.inl (.inl rfl)) _ _).grown (grown_alloc _ (.map #[] 0)) (by simp)
  have hD2 : DBlk ((W8.setCell ⟨g, 2, none⟩ (.map (some W8.heap.size))).alloc (.map #[] 0)) gb f t k := by
    unfold DBlk at hDb ⊢
    rw [hrow gb hz8 (by omega)]
    exact hDb
  have hz2 : gb < ((W8.setCell ⟨g, 2, none⟩ (.map (some W8.heap.size))).alloc (.map #[] 0)).heap.size := by simp; omega
  have hbE2 : ∀ k, (Value.slice ae es.length ce).ownBlock = some k → k = W8.heap.size → False := fun k hk e => by
    obtain ⟨h1, cur, e1⟩ := own_blk hE hk
    have := (Array.getElem?_eq_some_iff.1 e1).1
    omega
  have hbG2 : ∀ k, (Value.slice ab bs.length cb).ownBlock = some k → k = W8.heap.size → False := fun k hk e => by
    obtain ⟨h1, cur, e1⟩ := own_blk hG hk
    have := (Array.getElem?_eq_some_iff.1 e1).1
    omega
  have hsw : w.heap.size ≤ W8.heap.size := hK8.size
  replace hS2 := hide hS2
  replace hE2 := hide hE2
  replace hG2 := hide hG2
  replace hM2 := hide hM2
  replace hK2 := hide hK2
  replace hD2 := hide hD2
  replace hz2 := hide hz2
  clear hS hE hG hK8 hDb hrow hvs
  go_wp2
  clear c2 hnil hmm f2
  have hS := unhide hS2
  have hE := unhide hE2
  have hG := unhide hG2
  obtain ⟨m, hM, hmq⟩ : ∃ m, MapF ((W8.setCell ⟨g, 2, none⟩ (.map (some W8.heap.size))).alloc (.map #[] 0)) W8.heap.size m (fun s => plc s es) ∧ m + es.length ≤ q := ⟨0, unhide hM2, by omega⟩
  have hK8 := unhide hK2
  have hDb := unhide hD2
  have hz8' := hz8
  have hz8 := unhide hz2
  have hbE := hbE2
  have hbG := hbG2
  clear hS2 hE2 hG2 hM2 hK2 hD2 hz2 hbE2 hbG2
  have hbl : gb < W8.heap.size := hz8'
  generalize (W8.setCell ⟨g, 2, none⟩ (.map (some W8.heap.size))).alloc (.map #[] 0) = WW at *
  generalize W8.heap.size = b at *
  clear hz8'
  clear W8
  obtain ⟨W8, hWW⟩ : ∃ x, x = WW := ⟨_, rfl⟩
  subst hWW
  refine wp_region_D (fun w' => Blk3 w' g (.slice ae es.length ce) (.slice ab bs.length cb) (some b)) (fun j => [10].contains j) (by kernel_rfl) ?_
  replace hS : Blk3 W8.drew g (.slice ae es.length ce) (.slice ab bs.length cb) (some b) := hS
  replace hM : MapF W8.drew b m (fun s => plc s es) := hM
  replace hE : OwnEn W8.drew (g + 1) (.slice ae es.length ce) es := hE
  replace hG : OwnB W8.drew (g + 1) (.slice ab bs.length cb) bs := hG
  replace hK8 : Kp (fun x => x = g ∨ (none : Option Nat) = some x) w W8.drew := hK8.drew
  replace hDb : DBlk W8.drew gb f t k := hDb
  replace hz8 : gb < W8.drew.heap.size := hz8
  generalize World.drew W8 = W at *
  refine wpAnyD_takeC (i := 0) (v := .pointer (some ⟨g, 0, none⟩)) [10] (fun _ => rfl) rfl (by kernel_rfl) 2 (by kernel_rfl) rfl (by kernel_rfl) (by kernel_rfl) (by kernel_rfl) (fun _ _ _ h => h) (Or.inl ⟨by kernel_rfl, ?_⟩) hS ?_
  · intro w hSw; go_simp
  try simp only [List.getElem_toArray, List.getElem_cons_succ, List.getElem_cons_zero, Act.put, List.setIfInBounds_toArray, List.set_cons_zero, List.set_cons_succ]
  refine wpAnyD_takeC (i := 1) (v := .pointer (some ⟨g, 0, none⟩)) [10] (fun _ => rfl) rfl (by kernel_rfl) 2 (by kernel_rfl) rfl (by kernel_rfl) (by kernel_rfl) (by kernel_rfl) (fun _ _ _ h => h) (Or.inl ⟨by kernel_rfl, ?_⟩) hS ?_
  · intro w hSw; go_simp
  try simp only [List.getElem_toArray, List.getElem_cons_succ, List.getElem_cons_zero, Act.put, List.setIfInBounds_toArray, List.set_cons_zero, List.set_cons_succ]
  refine wpAnyD_takeC (i := 2) (v := .pointer (some ⟨g, 2, none⟩)) [10] (fun _ => rfl) rfl (by kernel_rfl) 2 (by kernel_rfl) rfl (by kernel_rfl) (by kernel_rfl) (by kernel_rfl) (fun _ _ _ h => h) (Or.inl ⟨by kernel_rfl, ?_⟩) hS ?_
  · intro w hSw; go_simp
  try simp only [List.getElem_toArray, List.getElem_cons_succ, List.getElem_cons_zero, Act.put, List.setIfInBounds_toArray, List.set_cons_zero, List.set_cons_succ]
  refine wpAnyD_takeC (i := 3) (v := .map (some b)) [10] (fun _ => rfl) rfl (by kernel_rfl) 2 (by kernel_rfl) rfl (by kernel_rfl) (by kernel_rfl) (by kernel_rfl) (fun _ _ _ h => h) (Or.inl ⟨by kernel_rfl, ?_⟩) hS ?_
  · intro w hSw; have hc := Blk3.c2 hSw; go_simp
  try simp only [List.getElem_toArray, List.getElem_cons_succ, List.getElem_cons_zero, Act.put, List.setIfInBounds_toArray, List.set_cons_zero, List.set_cons_succ]
  refine wpAnyD_takeC (i := 4) (v := .string s) [10] (fun _ => rfl) rfl (by kernel_rfl) 2 (by kernel_rfl) rfl (by kernel_rfl) (by kernel_rfl) (by kernel_rfl) (fun _ _ _ h => h) (Or.inl ⟨by kernel_rfl, ?_⟩) hS ?_
  · intro w hSw; go_simp
  try simp only [List.getElem_toArray, List.getElem_cons_succ, List.getElem_cons_zero, Act.put, List.setIfInBounds_toArray, List.set_cons_zero, List.set_cons_succ]
  refine wpAnyD_takeC (i := 5) (v := .pointer (some ⟨g, 0, none⟩)) [10] (fun _ => rfl) rfl (by kernel_rfl) 2 (by kernel_rfl) rfl (by kernel_rfl) (by kernel_rfl) (by kernel_rfl) (fun _ _ _ h => h) (Or.inl ⟨by kernel_rfl, ?_⟩) hS ?_
  · intro w hSw; go_simp
  try simp only [List.getElem_toArray, List.getElem_cons_succ, List.getElem_cons_zero, Act.put, List.setIfInBounds_toArray, List.set_cons_zero, List.set_cons_succ]
  refine wpAnyD_takeC (i := 6) (v := .pointer (some ⟨g, 0, none⟩)) [10] (fun _ => rfl) rfl (by kernel_rfl) 2 (by kernel_rfl) rfl (by kernel_rfl) (by kernel_rfl) (by kernel_rfl) (fun _ _ _ h => h) (Or.inl ⟨by kernel_rfl, ?_⟩) hS ?_
  · intro w hSw; go_simp
  try simp only [List.getElem_toArray, List.getElem_cons_succ, List.getElem_cons_zero, Act.put, List.setIfInBounds_toArray, List.set_cons_zero, List.set_cons_succ]
  refine wpAnyD_takeC (i := 7) (v := .pointer (some ⟨g, 0, none⟩)) [10] (fun _ => rfl) rfl (by kernel_rfl) 2 (by kernel_rfl) rfl (by kernel_rfl) (by kernel_rfl) (by kernel_rfl) (fun _ _ _ h => h) (Or.inl ⟨by kernel_rfl, ?_⟩) hS ?_
  · intro w hSw; go_simp
  try simp only [List.getElem_toArray, List.getElem_cons_succ, List.getElem_cons_zero, Act.put, List.setIfInBounds_toArray, List.set_cons_zero, List.set_cons_succ]
  refine wpAnyD_takeC (i := 8) (v := .slice ae es.length ce) [10] (fun _ => rfl) rfl (by kernel_rfl) 2 (by kernel_rfl) rfl (by kernel_rfl) (by kernel_rfl) (by kernel_rfl) (fun _ _ _ h => h) (Or.inl ⟨by kernel_rfl, ?_⟩) hS ?_
  · intro w hSw; have hc := Blk3.c0 hSw; go_simp
  try simp only [List.getElem_toArray, List.getElem_cons_succ, List.getElem_cons_zero, Act.put, List.setIfInBounds_toArray, List.set_cons_zero, List.set_cons_succ]
  refine wpAnyD_takeC (i := 9) (v := .int .i64 es.length) [10] (fun _ => rfl) rfl (by kernel_rfl) 2 (by kernel_rfl) rfl (by kernel_rfl) (by kernel_rfl) (by kernel_rfl) (fun _ _ _ h => h) (Or.inl ⟨by kernel_rfl, ?_⟩) hS ?_
  · intro w hSw; go_simp
  try simp only [List.getElem_toArray, List.getElem_cons_succ, List.getElem_cons_zero, Act.put, List.setIfInBounds_toArray, List.set_cons_zero, List.set_cons_succ]
  refine wpAnyD_one (i := 10) rfl (by kernel_rfl) (fun K hK => ?_)
  replace hK := hide hK
  rw [if_pos (by kernel_rfl)]
  refine wp_mapPut (.tmp 29) (.tmp 30) (.tmp 35) rfl rfl s rfl es.length rfl hM hs (by omega) (by omega) (by omega) ?_
  intro W9 hM9 hg9
  have hS9 : Blk3 W9 g (.slice ae es.length ce) (.slice ab bs.length cb) (some b) := hS.grown hg9 (fun e => by injection e with e; omega)
  have hE9 : OwnEn W9 (g + 1) (.slice ae es.length ce) es := ownsRow_keep hE (fun k hk => hg9.block k (by
    obtain ⟨_, cur, e1⟩ := own_blk hE hk
    exact (Array.getElem?_eq_some_iff.1 e1).1) (fun e => by injection e with e; exact hbE k hk e))
  have hG9 : OwnB W9 (g + 1) (.slice ab bs.length cb) bs := ownsRow_keep hG (fun k hk => hg9.block k (by
    obtain ⟨_, cur, e1⟩ := own_blk hG hk
    exact (Array.getElem?_eq_some_iff.1 e1).1) (fun e => by injection e with e; exact hbG k hk e))
  have hD9 : DBlk W9 gb f t k := by
    unfold DBlk at hDb ⊢
    rw [hg9.block gb hz8 (fun e => by injection e with e; omega)]
    exact hDb
  have hK9 : Kp (fun x => x = g ∨ (none : Option Nat) = some x) w W9 := hK8.grown hg9 (fun k hk => by injection hk with hk; subst hk; first | (left; right; rfl) | (right; omega))
  have hz9 : gb < W9.heap.size := Nat.lt_of_lt_of_le hz8 hg9.size
  refine unhide hK _ _ (fun h => by cases h) ?_
  clear hK K hS hM hE hG hDb hK8 hg9 hz8
  try simp only [List.getElem_toArray, List.getElem_cons_succ, List.getElem_cons_zero, Act.put, List.setIfInBounds_toArray, List.set_cons_zero, List.set_cons_succ]
  refine wpAnyD_done (by kernel_rfl) ?_ _
  go_wp2
  refine wp_region_D (fun w' => Blk3 w' g (.slice ae es.length ce) (.slice ab bs.length cb) (some b) ∧ DBlk w' gb f t k) (fun j => [13].contains j) (by kernel_rfl) ?_
  have hS : Blk3 W9.drew g (.slice ae es.length ce) (.slice ab bs.length cb) (some b) ∧ DBlk W9.drew gb f t k := ⟨hS9, hD9⟩
  replace hM9 : MapF W9.drew b (m + 1) (fun t => if s = t then (es.length : Int) else plc t es) := hM9
  replace hE9 : OwnEn W9.drew (g + 1) (.slice ae es.length ce) es := hE9
  replace hG9 : OwnB W9.drew (g + 1) (.slice ab bs.length cb) bs := hG9
  replace hK9 : Kp (fun x => x = g ∨ (none : Option Nat) = some x) w W9.drew := hK9.drew
  replace hz9 : gb < W9.drew.heap.size := hz9
  clear hS9 hD9
  generalize World.drew W9 = W at *
  refine wpAnyD_takeC (i := 0) (v := .pointer (some ⟨g, 0, none⟩)) [13] (fun _ => rfl) rfl (by kernel_rfl) 2 (by kernel_rfl) rfl (by kernel_rfl) (by kernel_rfl) (by kernel_rfl) (fun _ _ _ h => h) (Or.inl ⟨by kernel_rfl, ?_⟩) hS ?_
  · intro w hSw; go_simp
  try simp only [List.getElem_toArray, List.getElem_cons_succ, List.getElem_cons_zero, Act.put, List.setIfInBounds_toArray, List.set_cons_zero, List.set_cons_succ]
  refine wpAnyD_takeC (i := 1) (v := .pointer (some ⟨g, 0, none⟩)) [13] (fun _ => rfl) rfl (by kernel_rfl) 2 (by kernel_rfl) rfl (by kernel_rfl) (by kernel_rfl) (by kernel_rfl) (fun _ _ _ h => h) (Or.inl ⟨by kernel_rfl, ?_⟩) hS ?_
  · intro w hSw; go_simp
  try simp only [List.getElem_toArray, List.getElem_cons_succ, List.getElem_cons_zero, Act.put, List.setIfInBounds_toArray, List.set_cons_zero, List.set_cons_succ]
  refine wpAnyD_takeC (i := 2) (v := .pointer (some ⟨g, 0, none⟩)) [13] (fun _ => rfl) rfl (by kernel_rfl) 2 (by kernel_rfl) rfl (by kernel_rfl) (by kernel_rfl) (by kernel_rfl) (fun _ _ _ h => h) (Or.inl ⟨by kernel_rfl, ?_⟩) hS ?_
  · intro w hSw; go_simp
  try simp only [List.getElem_toArray, List.getElem_cons_succ, List.getElem_cons_zero, Act.put, List.setIfInBounds_toArray, List.set_cons_zero, List.set_cons_succ]
  refine wpAnyD_takeC (i := 3) (v := .pointer (some ⟨g, 0, none⟩)) [13] (fun _ => rfl) rfl (by kernel_rfl) 2 (by kernel_rfl) rfl (by kernel_rfl) (by kernel_rfl) (by kernel_rfl) (fun _ _ _ h => h) (Or.inl ⟨by kernel_rfl, ?_⟩) hS ?_
  · intro w hSw; go_simp
  try simp only [List.getElem_toArray, List.getElem_cons_succ, List.getElem_cons_zero, Act.put, List.setIfInBounds_toArray, List.set_cons_zero, List.set_cons_succ]
  refine wpAnyD_takeC (i := 4) (v := .slice ae es.length ce) [13] (fun _ => rfl) rfl (by kernel_rfl) 2 (by kernel_rfl) rfl (by kernel_rfl) (by kernel_rfl) (by kernel_rfl) (fun _ _ _ h => h) (Or.inl ⟨by kernel_rfl, ?_⟩) hS ?_
  · intro w hSw; have hc := Blk3.c0 hSw.1; go_simp
  try simp only [List.getElem_toArray, List.getElem_cons_succ, List.getElem_cons_zero, Act.put, List.setIfInBounds_toArray, List.set_cons_zero, List.set_cons_succ]
  refine wpAnyD_takeC (i := 5) (v := .string s) [13] (fun _ => rfl) rfl (by kernel_rfl) 2 (by kernel_rfl) rfl (by kernel_rfl) (by kernel_rfl) (by kernel_rfl) (fun _ _ _ h => h) (Or.inl ⟨by kernel_rfl, ?_⟩) hS ?_
  · intro w hSw; go_simp
  try simp only [List.getElem_toArray, List.getElem_cons_succ, List.getElem_cons_zero, Act.put, List.setIfInBounds_toArray, List.set_cons_zero, List.set_cons_succ]
  refine wpAnyD_takeC (i := 6) (v := .agg #[.int .i64 f, .int .i64 t, .int .i64 k]) [13] (fun _ => rfl) rfl (by kernel_rfl) 2 (by kernel_rfl) rfl (by kernel_rfl) (by kernel_rfl) (by kernel_rfl) (fun _ _ _ h => h) (Or.inl ⟨by kernel_rfl, ?_⟩) hS ?_
  · intro w hSw; have hd := DBlk.cells hSw.2; obtain ⟨hd0, hd1, hd2⟩ := hd; go_simp
  try simp only [List.getElem_toArray, List.getElem_cons_succ, List.getElem_cons_zero, Act.put, List.setIfInBounds_toArray, List.set_cons_zero, List.set_cons_succ]
  refine wpAnyD_takeC (i := 7) (v := .int .i64 pp) [13] (fun _ => rfl) rfl (by kernel_rfl) 2 (by kernel_rfl) rfl (by kernel_rfl) (by kernel_rfl) (by kernel_rfl) (fun _ _ _ h => h) (Or.inl ⟨by kernel_rfl, ?_⟩) hS ?_
  · intro w hSw; go_simp
  try simp only [List.getElem_toArray, List.getElem_cons_succ, List.getElem_cons_zero, Act.put, List.setIfInBounds_toArray, List.set_cons_zero, List.set_cons_succ]
  refine wpAnyD_takeC (i := 8) (v := .agg #[.string s, .int .i64 f, .int .i64 t, .int .i64 k, .int .i64 pp]) [13] (fun _ => rfl) rfl (by kernel_rfl) 2 (by kernel_rfl) rfl (by kernel_rfl) (by kernel_rfl) (by kernel_rfl) (fun _ _ _ h => h) (Or.inl ⟨by kernel_rfl, ?_⟩) hS ?_
  · intro w hSw; go_simp
  try simp only [List.getElem_toArray, List.getElem_cons_succ, List.getElem_cons_zero, Act.put, List.setIfInBounds_toArray, List.set_cons_zero, List.set_cons_succ]
  refine wpAnyD_one (i := 9) rfl (by kernel_rfl) (fun K hK => ?_)
  replace hK := hide hK
  go_simp
  have hS1 : Blk3 (W.alloc (.cells #[.string s, .int .i64 f, .int .i64 t, .int .i64 k, .int .i64 pp] 50 (0, 0))) g (.slice ae es.length ce) (.slice ab bs.length cb) (some b) := hS.1.grown (grown_alloc W _) (by simp)
  have hD1 : DBlk (W.alloc (.cells #[.string s, .int .i64 f, .int .i64 t, .int .i64 k, .int .i64 pp] 50 (0, 0))) gb f t k := by
    have h9 := hS.2
    unfold DBlk at h9 ⊢
    rw [(grown_alloc W _).block gb hz9 (by simp)]
    exact h9
  have ho1 : OwnEn (W.alloc (.cells #[.string s, .int .i64 f, .int .i64 t, .int .i64 k, .int .i64 pp] 50 (0, 0))) (g + 1) (.slice ae es.length ce) es := World.ownsRow.alloc hE9 _
  have hG1 : OwnB (W.alloc (.cells #[.string s, .int .i64 f, .int .i64 t, .int .i64 k, .int .i64 pp] 50 (0, 0))) (g + 1) (.slice ab bs.length cb) bs := World.ownsRow.alloc hG9 _
  have hM1 : MapF (W.alloc (.cells #[.string s, .int .i64 f, .int .i64 t, .int .i64 k, .int .i64 pp] 50 (0, 0))) b (m + 1) (fun t => if s = t then (es.length : Int) else plc t es) := hM9.kept ((grown_alloc W _).block b hM9.lt (by simp))
  have hk1 : Kp (fun x => x = g ∨ (none : Option Nat) = some x) w (W.alloc (.cells #[.string s, .int .i64 f, .int .i64 t, .int .i64 k, .int .i64 pp] 50 (0, 0))) := hK9.grown (grown_alloc W _) (by simp)
  have hn1 := new_en W ⟨s, f, t, k, pp⟩ (0, 0)
  have hWw : w.heap.size ≤ W.heap.size := hK9.size
  have hbl : g + 1 ≤ W.heap.size := hS.1.lt
  have hs1 : (W.alloc (.cells #[.string s, .int .i64 f, .int .i64 t, .int .i64 k, .int .i64 pp] 50 (0, 0))).heap.size = W.heap.size + 1 := by simp
  have hz1 : gb < W.heap.size := hz9
  refine unhide hK _ _ (fun _ => ⟨hS1, hD1⟩) ?_
  clear hK K hS hE9 hG9 hM9 hK9 hz9
  dsimp only at hn1
  generalize W.alloc (.cells #[.string s, .int .i64 f, .int .i64 t, .int .i64 k, .int .i64 pp] 50 (0, 0)) = W1 at *
  generalize W.heap.size = z at *
  try simp only [List.getElem_toArray, List.getElem_cons_succ, List.getElem_cons_zero, Act.put, List.setIfInBounds_toArray, List.set_cons_zero, List.set_cons_succ]
  refine wpAnyD_one (i := 10) rfl (by kernel_rfl) (fun K hK => ?_)
  replace hK := hide hK
  rw [if_pos (by kernel_rfl)]
  obtain ⟨i0, hi, hz0, hz3, hz4⟩ := info_parts Try.info50
  refine wp_append_lies W1 _ _ 45 rfl (g + 1) 50 i0 _ 5 48 Try.underlying45 hi hz0 hz3 hz4 rfl (by decide) (.slice ae es.length ce) es.length (ensC es) rfl ho1 ⟨z, 0, none⟩ 1 1 (En.cells ⟨s, f, t, k, pp⟩) rfl rfl hn1 (one_en _) (by omega) (by unfold maxLen; omega) (by omega) (by omega) _ rfl ?_
  intro gn cap W2 hown2 hg2 hat hlt2
  have hS2 : Blk3 W2 g (.slice ae es.length ce) (.slice ab bs.length cb) (some b) := hS1.grown hg2 (fun e => by have := (own_blk ho1 e).1; omega)
  have hD2 : DBlk W2 gb f t k := by
    unfold DBlk at hD1 ⊢
    rw [hg2.block gb (by omega) (fun e => hgE gb e.symm rfl)]
    exact hD1
  have hk2 : Kp (fun x => x = g ∨ (none : Option Nat) = some x ∨ (Value.slice ae es.length ce).ownBlock = some x) w W2 := (hk1.mono (fun x hx => by rcases hx with h1 | h1 <;> simp [h1])).grown hg2 (fun k hk => .inl (.inr (.inr hk)))
  have hM2 : MapF W2 b (m + 1) (fun t => if s = t then (es.length : Int) else plc t es) := hM1.kept (hg2.block b hM1.lt (fun e => hbE b e.symm rfl))
  have hG2 : OwnB W2 (g + 1) (.slice ab bs.length cb) bs := ownsRow_keep hG1 (fun k hk => hg2.block k (by
    obtain ⟨_, cur, e1⟩ := own_blk hG1 hk
    exact (Array.getElem?_eq_some_iff.1 e1).1) (fun e => hEG k e.symm hk))
  have hrow2 : OwnEn W2 (g + 1) (.slice (some ⟨gn, 0, none⟩) (es.length + 1) cap) (es ++ [⟨s, f, t, k, pp⟩]) := by
    unfold OwnEn
    rw [ensC_snoc, List.length_append]
    exact hown2
  have hgn := (own_blk hrow2 (k := gn) rfl).1
  refine unhide hK _ _ (fun _ => ⟨hS2, hD2⟩) ?_
  have hS : Blk3 W2 g (.slice ae es.length ce) (.slice ab bs.length cb) (some b) ∧ DBlk W2 gb f t k := ⟨hS2, hD2⟩
  have hf2 := hS2.fr 0
  have hc2 := hS2.c0
  have hfin : Hid (∃ W3, W3 = W2.setCell ⟨g, 0, none⟩ (.slice (some ⟨gn, 0, none⟩) (es.length + 1) cap) ∧ Blk3 W3 g (.slice (some ⟨gn, 0, none⟩) (es.length + 1) cap) (.slice ab bs.length cb) (some b) ∧ OwnEn W3 (g + 1) (.slice (some ⟨gn, 0, none⟩) (es.length + 1) cap) (es ++ [⟨s, f, t, k, pp⟩]) ∧ OwnB W3 (g + 1) (.slice ab bs.length cb) bs ∧ MapF W3 b (m + 1) (fun t => if s = t then (es.length : Int) else plc t es) ∧ Kp (fun x => x = g ∨ (none : Option Nat) = some x ∨ (Value.slice ae es.length ce).ownBlock = some x) w W3) := hide ⟨_, rfl, hS2.set0 _, ownsRow_keep hrow2 (fun k hk => Below.heap_setCell _ _ _ k (fun e => by
      have e1 : gn = k := by simpa [Value.ownBlock] using hk
      dsimp only at e
      omega)), ownsRow_keep hG2 (fun k hk => Below.heap_setCell _ _ _ k (fun e => by
      have e1 := (own_blk hG2 hk).1
      dsimp only at e
      omega)), hM2.kept (Below.heap_setCell _ _ _ b (fun e => by
      dsimp only at e
      omega)), hk2.set (.inl (.inl rfl)) _ _⟩
  clear hK K hown2 hS1 hD1 ho1 hn1 hG1 hM1
  try simp only [List.getElem_toArray, List.getElem_cons_succ, List.getElem_cons_zero, Act.put, List.setIfInBounds_toArray, List.set_cons_zero, List.set_cons_succ]
  refine wpAnyD_takeC (i := 11) (v := .pointer (some ⟨g, 0, none⟩)) [13] (fun _ => rfl) rfl (by kernel_rfl) 2 (by kernel_rfl) rfl (by kernel_rfl) (by kernel_rfl) (by kernel_rfl) (fun _ _ _ h => h) (Or.inl ⟨by kernel_rfl, ?_⟩) hS ?_
  · intro w hSw; go_simp
  try simp only [List.getElem_toArray, List.getElem_cons_succ, List.getElem_cons_zero, Act.put, List.setIfInBounds_toArray, List.set_cons_zero, List.set_cons_succ]
  refine wpAnyD_takeC (i := 12) (v := .pointer (some ⟨g, 0, none⟩)) [13] (fun _ => rfl) rfl (by kernel_rfl) 2 (by kernel_rfl) rfl (by kernel_rfl) (by kernel_rfl) (by kernel_rfl) (fun _ _ _ h => h) (Or.inl ⟨by kernel_rfl, ?_⟩) hS ?_
  · intro w hSw; go_simp
  try simp only [List.getElem_toArray, List.getElem_cons_succ, List.getElem_cons_zero, Act.put, List.setIfInBounds_toArray, List.set_cons_zero, List.set_cons_succ]
  refine wpAnyD_one (i := 13) rfl (by kernel_rfl) (fun K hK => ?_)
  replace hK := hide hK
  go_simp
  refine unhide hK _ _ (fun h => by cases h) ?_
  obtain ⟨W3, hW3, f1, f2, f3, f4, f5⟩ := unhide hfin
  rw [← hW3]
  clear hK K
  refine wpAnyD_done (by kernel_rfl) ?_ _
  go_wp2
  go_ret
  have h := unhide hh
  have hpl : ∀ x, plc x (es ++ [⟨s, f, t, k, plc s es⟩]) = if s = x then (es.length : Int) else plc x es := fun x => plc_snoc x es _
  rw [← unhide hpp] at f2
  obtain ⟨S', g1, g2⟩ := h.turn f5.size f1 f2 f3 (mo' := some b) (q' := q + 2) (by
    simp only [MapOk]
    exact ⟨by omega, m + 1, f4.ext hpl, by simp; omega⟩) (by
    intro k' hk'
    have e1 : gn = k' := by simpa [Value.ownBlock] using hk'
    subst e1
    rcases hat with h1 | h1
    · exact .inl (h.se _ h1)
    · exact .inr (by omega)) (fun k' hk' => .inl (h.sb k' hk')) (by
    intro k' hk'
    injection hk' with hk'
    subst hk'
    first
      | exact .inl (h.sm _ rfl)
      | exact .inr (by omega)) (h.inv.add f t k hlt) (by
    have := h.few
    simp
    omega) (by
    intro e he
    rcases List.mem_append.1 he with h1 | h1
    · exact h.nm e h1
    · simp at h1
      subst h1
      exact hs)
  refine ⟨rfl, S', ⟨_, _, _, g1⟩, g2, f5.mono ?_⟩
  rintro x (rfl | h1 | h1)
  · exact h.sg
  · exact h.sm x h1
  · exact h.se x h1
theorem add_any {w : World} {g : Nat} {S : Nat → Prop} {es : List En} {bs : List Nat} {q : Nat} (h : ScQ w g S es bs q) (hq : q ≤ 900) (s : ByteArray) (hs : s.size ≤ 1000) (f t k : Int) :
    Calls Try.prog 12 #[.pointer (some ⟨g, 0, none⟩), .string s, .agg #[.int .i64 f, .int .i64 t, .int .i64 k]] w fun e w' => if plc s es < beg bs then e = .returned (.bool true) ∧ ResS w g S (es ++ [⟨s, f, t, k, plc s es⟩]) bs (q + 2) w' else e = .returned (.bool false) ∧ ResS w g S es bs q w' := by
  obtain ⟨ve, vb, mo, h⟩ := h
  by_cases hl : plc s es < beg bs
  · simp only [hl, if_true]
    obtain ⟨ae, ce, rfl, _⟩ := own_form h.ens
    obtain ⟨ab, cb, rfl, _⟩ := own_form h.bgs
    cases mo with
    | none => exact add_none h hq s hs f t k hl
    | some b => exact add_some h hq s hs f t k hl
  · simp only [hl, if_false]
    refine (add_no h hq s hs f t k (by omega)).mono ?_
    rintro e w' ⟨rfl, hb⟩
    exact ⟨rfl, S, ⟨ve, vb, mo, h.below hb⟩, fun x hx => .inl hx, Kp.of_below hb⟩
end Go.Proofs.Ytlmfoieolomcfaa

/-
  Scopes: Push.
-/
import Derived.Test.YtlmfoieolomcfaaSpKeep
import Derived.Test.YtlmfoieolomcfaaOrdI
import Derived.BigQuiet
namespace Go.Proofs.Ytlmfoieolomcfaa
open Go.RowKit Go.Maps Go.Lib Go.WideMaps
set_option linter.unusedSimpArgs false
set_option linter.unusedVariables false
theorem new_int (w : World) (n : Int) (fr : Nat × Nat) : ∀ (j : Nat) (u : Value), [Value.int .i64 n][j]? = some u → (w.alloc (.cells #[.int .i64 n] 3 fr)).cell? (Addr.add ⟨w.heap.size, 0, none⟩ j) = some u := by
  intro j u hj
  rw [show Addr.add ⟨w.heap.size, 0, none⟩ j = ⟨w.heap.size, j, none⟩ by simp [Addr.add]; omega, World.cell?_alloc_mark, List.getElem?_toArray]
  exact hj
theorem grown_alloc (w : World) (o : Obj) : w.grownBy (w.alloc o) none := World.grownBy_alloc w o none
theorem begC_snoc (bs : List Nat) (b : Nat) : begC (bs ++ [b]) = begC bs ++ [.int .i64 b] := by simp [begC]
/-- The begins are turned: all else of the scopes stays. -/
theorem ScW.turnB {w w2 : World} {g : Nat} {S : Nat → Prop} {es : List En} {bs bs' : List Nat} {ve vb vb' : Value} {mo : Option Nat} {q q' : Nat} (h : ScW w g S es bs ve vb mo q) (hb : Blk3 w2 g ve vb' mo) (ho : OwnB w2 (g + 1) vb' bs') (hk : Kp (fun x => x = g ∨ vb.ownBlock = some x) w w2)
    (hin : vb'.ownBlock = vb.ownBlock ∨ ∀ k, vb'.ownBlock = some k → w.heap.size ≤ k) (hi : Inv es bs') (hq : q ≤ q') (hf : bs'.length ≤ q') : ∃ S', ScW w2 g S' es bs' ve vb' mo q' ∧ (∀ x, S' x → S x ∨ w.heap.size ≤ x) := by
  refine ⟨fun x => (S x ∨ vb'.ownBlock = some x) ∧ x < w2.heap.size, ⟨hb, ?_, ho, ?_, ⟨.inl h.sg, hb.lt⟩, fun k hk' => ⟨.inl (h.se k hk'), Nat.lt_of_lt_of_le (h.lt k (h.se k hk')) hk.size⟩, fun k hk' => ⟨.inr hk', ?_⟩, fun k hk' => ⟨.inl (h.sm k hk'), Nat.lt_of_lt_of_le (h.lt k (h.sm k hk')) hk.size⟩, fun k hk' => hk'.2, hi, ⟨Nat.le_trans h.few.1 hq, hf⟩, h.nm⟩, fun x hx => ?_⟩
  · exact ownsRow_keep h.ens fun k hk' => hk.block k (h.lt k (h.se k hk')) (by
      rintro (rfl | h2)
      · have := (own_blk h.ens hk').1; omega
      · exact h.eb hk' h2)
  · have hm := h.map
    have hgm := fun k => h.gm (k := k)
    have hbm := fun k => h.bm (k := k)
    have hsm := h.sm
    cases mo with
    | none =>
      simp only [MapOk] at hm ⊢
      exact hm
    | some b =>
      simp only [MapOk] at hm ⊢
      obtain ⟨h1, m, h2, h3⟩ := hm
      exact ⟨h1, m, h2.kept (hk.block b h2.lt (by
        rintro (rfl | h4)
        · omega
        · exact hbm b h4 rfl)), by omega⟩
  · obtain ⟨_, cur, e1⟩ := own_blk ho hk'
    exact (Array.getElem?_eq_some_iff.1 e1).1
  · rcases hx.1 with h1 | h1
    · exact .inl h1
    · rcases hin with h2 | h2
      · rw [h2] at h1; exact .inl (h.sb x h1)
      · exact .inr (h2 x h1)
set_option maxHeartbeats 2000000 in
set_option maxRecDepth 100000 in
theorem push_any {w : World} {g : Nat} {S : Nat → Prop} {es : List En} {bs : List Nat} {q : Nat} (h : ScQ w g S es bs q) (hq : q ≤ 900) :
    Calls Try.prog 10 #[.pointer (some ⟨g, 0, none⟩)] w fun e w' => e = .returned (.tuple #[]) ∧ ResS w g S es (bs ++ [es.length]) (q + 1) w' := by
  obtain ⟨ve, vb, mo, h⟩ := h
  obtain ⟨ae, ce, rfl, _⟩ := own_form h.ens
  obtain ⟨ab, cb, rfl, _⟩ := own_form h.bgs
  have hfew := h.few
  have hh := hide h
  have hp : Blk3 w g (.slice ae es.length ce) (.slice ab bs.length cb) mo := h.blk
  have ho := h.bgs
  clear h
  go_enter Try.func10, Try.ntmps10
  go_wp2
  refine wp_region_D (fun w' => Blk3 w' g (.slice ae es.length ce) (.slice ab bs.length cb) mo) (fun j => [14].contains j) (by kernel_rfl) ?_
  have hS : Blk3 w.drew g (.slice ae es.length ce) (.slice ab bs.length cb) mo := hp
  replace ho : OwnB w.drew (g + 1) (.slice ab bs.length cb) bs := ho
  have hk0 : Kp (fun x => x = g ∨ (Value.slice ab bs.length cb).ownBlock = some x) w w.drew := (Kp.refl _ w).drew
  clear hp
  generalize World.drew w = W at ho hS hk0 ⊢
  refine wpAnyD_takeC (i := 0) (v := .pointer (some ⟨g, 0, none⟩)) [14] (fun _ => rfl) rfl (by kernel_rfl) 2 (by kernel_rfl) rfl (by kernel_rfl) (by kernel_rfl) (by kernel_rfl) (fun _ _ _ h => h) (Or.inl ⟨by kernel_rfl, ?_⟩) hS ?_
  · intro w hSw; go_simp
  try simp only [List.getElem_toArray, List.getElem_cons_succ, List.getElem_cons_zero, Act.put, List.setIfInBounds_toArray, List.set_cons_zero, List.set_cons_succ]
  refine wpAnyD_takeC (i := 1) (v := .pointer (some ⟨g, 0, none⟩)) [14] (fun _ => rfl) rfl (by kernel_rfl) 2 (by kernel_rfl) rfl (by kernel_rfl) (by kernel_rfl) (by kernel_rfl) (fun _ _ _ h => h) (Or.inl ⟨by kernel_rfl, ?_⟩) hS ?_
  · intro w hSw; go_simp
  try simp only [List.getElem_toArray, List.getElem_cons_succ, List.getElem_cons_zero, Act.put, List.setIfInBounds_toArray, List.set_cons_zero, List.set_cons_succ]
  refine wpAnyD_takeC (i := 2) (v := .pointer (some ⟨g, 0, none⟩)) [14] (fun _ => rfl) rfl (by kernel_rfl) 2 (by kernel_rfl) rfl (by kernel_rfl) (by kernel_rfl) (by kernel_rfl) (fun _ _ _ h => h) (Or.inl ⟨by kernel_rfl, ?_⟩) hS ?_
  · intro w hSw; go_simp
  try simp only [List.getElem_toArray, List.getElem_cons_succ, List.getElem_cons_zero, Act.put, List.setIfInBounds_toArray, List.set_cons_zero, List.set_cons_succ]
  refine wpAnyD_takeC (i := 3) (v := .pointer (some ⟨g, 1, none⟩)) [14] (fun _ => rfl) rfl (by kernel_rfl) 2 (by kernel_rfl) rfl (by kernel_rfl) (by kernel_rfl) (by kernel_rfl) (fun _ _ _ h => h) (Or.inl ⟨by kernel_rfl, ?_⟩) hS ?_
  · intro w hSw; go_simp
  try simp only [List.getElem_toArray, List.getElem_cons_succ, List.getElem_cons_zero, Act.put, List.setIfInBounds_toArray, List.set_cons_zero, List.set_cons_succ]
  refine wpAnyD_takeC (i := 4) (v := .slice ab bs.length cb) [14] (fun _ => rfl) rfl (by kernel_rfl) 2 (by kernel_rfl) rfl (by kernel_rfl) (by kernel_rfl) (by kernel_rfl) (fun _ _ _ h => h) (Or.inl ⟨by kernel_rfl, ?_⟩) hS ?_
  · intro w hSw; have hc := Blk3.c1 hSw; go_simp
  try simp only [List.getElem_toArray, List.getElem_cons_succ, List.getElem_cons_zero, Act.put, List.setIfInBounds_toArray, List.set_cons_zero, List.set_cons_succ]
  refine wpAnyD_takeC (i := 5) (v := .pointer (some ⟨g, 0, none⟩)) [14] (fun _ => rfl) rfl (by kernel_rfl) 2 (by kernel_rfl) rfl (by kernel_rfl) (by kernel_rfl) (by kernel_rfl) (fun _ _ _ h => h) (Or.inl ⟨by kernel_rfl, ?_⟩) hS ?_
  · intro w hSw; go_simp
  try simp only [List.getElem_toArray, List.getElem_cons_succ, List.getElem_cons_zero, Act.put, List.setIfInBounds_toArray, List.set_cons_zero, List.set_cons_succ]
  refine wpAnyD_takeC (i := 6) (v := .pointer (some ⟨g, 0, none⟩)) [14] (fun _ => rfl) rfl (by kernel_rfl) 2 (by kernel_rfl) rfl (by kernel_rfl) (by kernel_rfl) (by kernel_rfl) (fun _ _ _ h => h) (Or.inl ⟨by kernel_rfl, ?_⟩) hS ?_
  · intro w hSw; go_simp
  try simp only [List.getElem_toArray, List.getElem_cons_succ, List.getElem_cons_zero, Act.put, List.setIfInBounds_toArray, List.set_cons_zero, List.set_cons_succ]
  refine wpAnyD_takeC (i := 7) (v := .pointer (some ⟨g, 0, none⟩)) [14] (fun _ => rfl) rfl (by kernel_rfl) 2 (by kernel_rfl) rfl (by kernel_rfl) (by kernel_rfl) (by kernel_rfl) (fun _ _ _ h => h) (Or.inl ⟨by kernel_rfl, ?_⟩) hS ?_
  · intro w hSw; go_simp
  try simp only [List.getElem_toArray, List.getElem_cons_succ, List.getElem_cons_zero, Act.put, List.setIfInBounds_toArray, List.set_cons_zero, List.set_cons_succ]
  refine wpAnyD_takeC (i := 8) (v := .slice ae es.length ce) [14] (fun _ => rfl) rfl (by kernel_rfl) 2 (by kernel_rfl) rfl (by kernel_rfl) (by kernel_rfl) (by kernel_rfl) (fun _ _ _ h => h) (Or.inl ⟨by kernel_rfl, ?_⟩) hS ?_
  · intro w hSw; have hc := Blk3.c0 hSw; go_simp
  try simp only [List.getElem_toArray, List.getElem_cons_succ, List.getElem_cons_zero, Act.put, List.setIfInBounds_toArray, List.set_cons_zero, List.set_cons_succ]
  refine wpAnyD_takeC (i := 9) (v := .int .i64 es.length) [14] (fun _ => rfl) rfl (by kernel_rfl) 2 (by kernel_rfl) rfl (by kernel_rfl) (by kernel_rfl) (by kernel_rfl) (fun _ _ _ h => h) (Or.inl ⟨by kernel_rfl, ?_⟩) hS ?_
  · intro w hSw; go_simp
  try simp only [List.getElem_toArray, List.getElem_cons_succ, List.getElem_cons_zero, Act.put, List.setIfInBounds_toArray, List.set_cons_zero, List.set_cons_succ]
  refine wpAnyD_one (i := 10) rfl (by kernel_rfl) (fun K hK => ?_)
  replace hK := hide hK
  go_simp
  have hS1 : Blk3 (W.alloc (.cells #[.int .i64 es.length] 3 (0, 0))) g (.slice ae es.length ce) (.slice ab bs.length cb) mo := hS.grown (grown_alloc W _) (by simp)
  have ho1 : OwnB (W.alloc (.cells #[.int .i64 es.length] 3 (0, 0))) (g + 1) (.slice ab bs.length cb) bs := World.ownsRow.alloc ho _
  have hk1 : Kp (fun x => x = g ∨ (Value.slice ab bs.length cb).ownBlock = some x) w (W.alloc (.cells #[.int .i64 es.length] 3 (0, 0))) := hk0.grown (grown_alloc W _) (by simp)
  have hn1 := new_int W es.length (0, 0)
  have hWw : w.heap.size ≤ W.heap.size := hk0.size
  have hbl : g + 1 ≤ W.heap.size := hS.lt
  have hs1 : (W.alloc (.cells #[.int .i64 es.length] 3 (0, 0))).heap.size = W.heap.size + 1 := by simp
  refine unhide hK _ _ (fun _ => hS1) ?_
  clear hK K hS ho hk0
  generalize W.alloc (.cells #[.int .i64 es.length] 3 (0, 0)) = W1 at *
  generalize W.heap.size = z at *
  try simp only [List.getElem_toArray, List.getElem_cons_succ, List.getElem_cons_zero, Act.put, List.setIfInBounds_toArray, List.set_cons_zero, List.set_cons_succ]
  refine wpAnyD_one (i := 11) rfl (by kernel_rfl) (fun K hK => ?_)
  replace hK := hide hK
  rw [if_pos (by kernel_rfl)]
  obtain ⟨i0, hi, hz0, hz1, hz2⟩ := info_parts Try.info3
  refine wp_append_lies W1 _ _ 43 rfl (g + 1) 3 i0 _ 1 8 Try.underlying43 hi hz0 hz1 hz2 rfl (by decide) (.slice ab bs.length cb) bs.length (begC bs) rfl ho1 ⟨z, 0, none⟩ 1 1 [.int .i64 es.length] rfl rfl hn1 (by simp [Value.oneCell']) (by omega) (by unfold maxLen; omega) (by omega) (by omega) _ rfl ?_
  intro gn cap W2 hown2 hg2 hat hlt2
  have hS2 : Blk3 W2 g (.slice ae es.length ce) (.slice ab bs.length cb) mo := hS1.grown hg2 (fun e => by have := (own_blk ho1 e).1; omega)
  have hk2 := hk1.grown hg2 (fun k hk => .inl (.inr hk))
  have hrow2 : OwnB W2 (g + 1) (.slice (some ⟨gn, 0, none⟩) (bs.length + 1) cap) (bs ++ [es.length]) := by
    unfold OwnB
    rw [begC_snoc, List.length_append]
    exact hown2
  have hgn := (own_blk hrow2 (k := gn) rfl).1
  refine unhide hK _ _ (fun _ => hS2) ?_
  have hS := hS2
  have hf2 := hS2.fr 1
  have hc2 := hS2.c1
  have hfin : Hid (∃ W3, W3 = W2.setCell ⟨g, 1, none⟩ (.slice (some ⟨gn, 0, none⟩) (bs.length + 1) cap) ∧ Blk3 W3 g (.slice ae es.length ce) (.slice (some ⟨gn, 0, none⟩) (bs.length + 1) cap) mo ∧ OwnB W3 (g + 1) (.slice (some ⟨gn, 0, none⟩) (bs.length + 1) cap) (bs ++ [es.length]) ∧ Kp (fun x => x = g ∨ (Value.slice ab bs.length cb).ownBlock = some x) w W3) := hide ⟨_, rfl, hS2.set1 _, ownsRow_keep hrow2 (fun k hk => Below.heap_setCell _ _ _ k (fun e => by
      have e1 : gn = k := by simpa [Value.ownBlock] using hk
      dsimp only at e
      omega)), hk2.set (.inl (.inl rfl)) _ _⟩
  clear hK K hown2 hS1 ho1 hn1
  try simp only [List.getElem_toArray, List.getElem_cons_succ, List.getElem_cons_zero, Act.put, List.setIfInBounds_toArray, List.set_cons_zero, List.set_cons_succ]
  refine wpAnyD_takeC (i := 12) (v := .pointer (some ⟨g, 0, none⟩)) [14] (fun _ => rfl) rfl (by kernel_rfl) 2 (by kernel_rfl) rfl (by kernel_rfl) (by kernel_rfl) (by kernel_rfl) (fun _ _ _ h => h) (Or.inl ⟨by kernel_rfl, ?_⟩) hS ?_
  · intro w hSw; go_simp
  try simp only [List.getElem_toArray, List.getElem_cons_succ, List.getElem_cons_zero, Act.put, List.setIfInBounds_toArray, List.set_cons_zero, List.set_cons_succ]
  refine wpAnyD_takeC (i := 13) (v := .pointer (some ⟨g, 1, none⟩)) [14] (fun _ => rfl) rfl (by kernel_rfl) 2 (by kernel_rfl) rfl (by kernel_rfl) (by kernel_rfl) (by kernel_rfl) (fun _ _ _ h => h) (Or.inl ⟨by kernel_rfl, ?_⟩) hS ?_
  · intro w hSw; go_simp
  try simp only [List.getElem_toArray, List.getElem_cons_succ, List.getElem_cons_zero, Act.put, List.setIfInBounds_toArray, List.set_cons_zero, List.set_cons_succ]
  refine wpAnyD_one (i := 14) rfl (by kernel_rfl) (fun K hK => ?_)
  replace hK := hide hK
  go_simp
  refine unhide hK _ _ (fun h => by cases h) ?_
  obtain ⟨W3, hW3, f1, f2, f3⟩ := unhide hfin
  rw [← hW3]
  clear hK K
  refine wpAnyD_done (by kernel_rfl) ?_ _
  go_wp2
  go_end0
  have h := unhide hh
  obtain ⟨S', g1, g2⟩ := h.turnB f1 f2 f3 (by
    rcases hat with h | h
    · exact .inl h.symm
    · exact .inr (fun k hk => by
        have e1 : gn = k := by simpa [Value.ownBlock] using hk
        omega)) h.inv.push (Nat.le_succ q) (by have := h.few.2; simp; omega)
  exact ⟨rfl, S', ⟨_, _, _, g1⟩, g2, f3.mono (by
    rintro x (rfl | hx)
    · exact h.sg
    · exact h.sb x hx)⟩
end Go.Proofs.Ytlmfoieolomcfaa

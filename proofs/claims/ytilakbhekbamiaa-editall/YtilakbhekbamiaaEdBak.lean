/-
  The program's Back.
-/
import Derived.Test.YtilakbhekbamiaaEdApply
import Derived.Test.YtilakbhekbamiaaEdMore
import Derived.Laws.MakeOwn
import Derived.Deep.DeepCutAuto
import Derived.Deep.RegionHeld
namespace Go.Proofs.Ytilakbhekbamiaa
open Go.RowKit
set_option linter.unusedSimpArgs false
set_option linter.unusedVariables false
/-- The first k of the edits back. -/
def bakP (s : ByteArray) (l : List Ed) (k : Nat) : List Ed := (List.range k).map (bakK s l)
theorem bakP_len (s : ByteArray) (l : List Ed) (k : Nat) : (bakP s l k).length = k := by simp [bakP]
theorem bakP_next (s : ByteArray) (l : List Ed) (k : Nat) : bakP s l (k + 1) = bakP s l k ++ [bakK s l k] := by simp [bakP, List.range_succ]
theorem EdAt.kept {w w' : World} {g o : Nat} {e : Ed} (h : EdAt w g o e) (hg : w'.heap[g]? = w.heap[g]?) : EdAt w' g o e := by
  obtain ⟨h0, h1, h2⟩ := h
  exact ⟨by rw [World.cell?_of_block (w := w) (w' := w') hg]; exact h0, by rw [World.cell?_of_block (w := w) (w' := w') hg]; exact h1, by rw [World.cell?_of_block (w := w) (w' := w') hg]; exact h2⟩
theorem ownE_base {w : World} {base base' : Nat} {v : Value} {l : List Ed} (h : OwnE w base v l) (hb : base' ≤ base) : OwnE w base' v l := by
  refine ⟨h.1, ?_⟩
  rcases h.2 with h | ⟨g, cap, cur, h1, h2, h3⟩
  · exact .inl h
  · exact .inr ⟨g, cap, cur, h1, Nat.le_trans hb h2, h3⟩
theorem bakK_is {s : ByteArray} {l : List Ed} (hm : mayB l s.size = true) {k p m : Nat} {es : ByteArray} (h : k < l.length) (he : l.getD k ed0 = ⟨p, m, es⟩) : bakK s l k = ⟨p + shK l k, es.size, s.extract p (p + m)⟩ := by
  have := pos_shift hm h
  rw [bakK, this, he]
  dsimp only
  congr 1
theorem shK_lim {s : ByteArray} {l : List Ed} (hm : mayB l s.size = true) {B : Nat} (hB : ∀ e ∈ l, e.s.size ≤ B) {k : Nat} (h : k ≤ l.length) : -(s.size : Int) ≤ shK l k ∧ shK l k ≤ (k * (s.size + B) : Nat) := by
  have h1 := out_shift hm h
  have h2 := outK_size hB h (mayK_le h hm)
  have h3 := atK_le (mayK_le h hm)
  constructor <;> omega
set_option maxHeartbeats 8000000 in
set_option maxRecDepth 100000 in
theorem pBack_no (v : Value) (L : List Ed) (s : ByteArray) (w : World) (h : Eds w v L) (hl : L.length ≤ 1000) (hs : s.size ≤ 100000000) (hr : Rng L) (hm : mayB L s.size = false) :
    Calls Try.prog 11 #[.string s, v] w fun e w' => e = .returned (.slice none 0 0) ∧ Below w.heap.size w w' := by
  have hMay := hide (pMay_any v L s.size w h (by omega) ⟨by omega, by omega⟩ hr)
  rw [hm] at hMay
  replace h := hide h
  replace hr := hide hr
  replace hm := hide hm
  go_enter Try.func11, Try.ntmps11
  go_wp2_with fail
  refine (unhide hMay).mono ?_
  rintro e W1 ⟨rfl, hb⟩
  go_wp2
  go_ret
  exact ⟨rfl, hb⟩
set_option maxHeartbeats 8000000 in
set_option maxRecDepth 100000 in
theorem pBack_yes (v : Value) (L : List Ed) (s : ByteArray) (w : World) (h : Eds w v L) (hl : L.length ≤ 1000) (hs : s.size ≤ 1000000) (hB : ∀ e ∈ L, e.s.size ≤ 1000000) (hr : Rng L) (hm : mayB L s.size = true) :
    Calls Try.prog 11 #[.string s, v] w fun e w' => ∃ u, e = .returned u ∧ OwnE w' w.heap.size u (bakL s L) ∧ Below w.heap.size w w' := by
  have hMay := hide (pMay_any v L s.size w h (by omega) ⟨by omega, by omega⟩ hr)
  rw [hm] at hMay
  have hE := hide h
  obtain ⟨a, c, rfl, h1, h2, h3⟩ := h
  unfold maxLen at h2
  obtain ⟨n, hn⟩ : ∃ n, L.length = n := ⟨_, rfl⟩
  have hlim := hide (fun k (hk : k ≤ L.length) => shK_lim hm hB hk)
  have hbk := hide (fun (k p m : Nat) (es : ByteArray) (hk : k < L.length) (he : L.getD k ed0 = ⟨p, m, es⟩) => bakK_is hm hk he)
  have hend : Hid (bakL s L = bakP s L n) := hide (by rw [bakL, bakP, hn])
  unfold mayB at hm
  rw [hn] at hl h1 h3 hlim hm hE hMay hbk ⊢
  replace h3 := hide h3
  replace hm := hide hm
  replace hB := hide hB
  replace hr := hide hr
  go_enter Try.func11, Try.ntmps11
  go_wp2_with fail
  refine (unhide hMay).mono ?_
  clear hMay hE hr
  rintro e W1 ⟨rfl, hb1⟩
  obtain ⟨i0, hi, hz0, hz1, hz2⟩ := info_parts Try.info31
  obtain ⟨WM, hrun, hownM, hgM⟩ := run_make_own (P := Try.prog) W1 W1.heap.size 22 31 i0 _ 3 Try.underlying22 hi hz0 hz1 .i64 .i64 n (by rw [hz2]; omega) (by unfold maxLen; omega) (Nat.le_refl _)
  have hbM : Below W1.heap.size W1 WM := (Below.refl _ _).grown hgM (Nat.le_refl _) (fun k hk => by cases hk)
  clear hi hz0 hz1 hz2 hgM
  replace hownM := hide hownM
  go_wp2
  go_loopg [5, 6, 19] n (fun gf s5 s6 s19 wx => ∃ i : Nat, s6 = .int .i64 (shK L i) ∧ s19 = .int .i64 i ∧ i + gf = n ∧ OwnE wx W1.heap.size s5 (bakP s L i) ∧ Below W1.heap.size W1 wx)
  case atStart => exact ⟨0, rfl, rfl, by omega, unhide hownM, hbM⟩
  case round =>
    clear hownM hrun
    obtain ⟨i, rfl, rfl, hi, hown, hbw⟩ := hrel
    have hwz := hbw.size
    by_cases hlt : i < n
    · have hlz : (i : Int) < n := by omega
      obtain ⟨g', rfl⟩ : ∃ g', gk = g' + 1 := ⟨gk - 1, by omega⟩
      obtain ⟨g, off, rfl, hg, hc⟩ := unhide h3 (by omega)
      obtain ⟨k1, k2, k3, k4⟩ := okE_iff.1 (mayK_at hlt (unhide hm)).1
      have hsh : Hid (shK L (i + 1) = shK L i + ((L.getD i ed0).s.size - (L.getD i ed0).n)) := hide rfl
      have hl1 := unhide hlim i (by omega)
      have hl2 := unhide hlim (i + 1) (by omega)
      have hBi : (L.getD i ed0).s.size ≤ 1000000 := unhide hB _ (by
        have : i < L.length := by omega
        simp [List.getD, this])
      have hbi := hide (fun p m es => unhide hbk i p m es hlt)
      obtain ⟨x0, x1, x2⟩ := (hc i hlt).below hg (below3 hb1 hbw)
      clear hc
      generalize hEE : L.getD i ed0 = E at *
      obtain ⟨ep, en, es⟩ := E
      dsimp only at *
      obtain ⟨p, rfl⟩ := Int.eq_ofNat_of_zero_le k1
      obtain ⟨m, rfl⟩ := Int.eq_ofNat_of_zero_le k2
      have hbi2 : Hid (bakP s L (i + 1) = bakP s L i ++ [⟨p + shK L i, es.size, s.extract p (p + m)⟩]) := hide (by rw [bakP_next, unhide hbi p m es rfl])
      have hq1 : i * (s.size + 1000000) ≤ 1000 * 2000000 := Nat.mul_le_mul (by omega) (by omega)
      have hq2 : (i + 1) * (s.size + 1000000) ≤ 1000 * 2000000 := Nat.mul_le_mul (by omega) (by omega)
      rw [unhide hsh] at hl2
      have hsn : Hid (shK L (i + 1) = shK L i + ((es.size : Int) - m)) := hsh
      clear hsh hbi hEE
      generalize shK L i = sh at *
      have hw1 : IntKind.i64.wrap ((p : Int) + sh) = p + sh := wrapI _ (by omega) (by omega)
      have hw2 : IntKind.i64.wrap ((p : Int) + m) = p + m := wrapI _ (by omega) (by omega)
      have hw3 : IntKind.i64.wrap ((es.size : Int) - m) = es.size - m := wrapI _ (by omega) (by omega)
      have hpm : (p : Int) + m ≤ s.size := by omega
      have hw4 : IntKind.i64.wrap (sh + ((es.size : Int) - m)) = sh + (es.size - m) := wrapI _ (by omega) (by omega)
      have hSA : EdAt (wr.alloc (.cells #[.int .i64 p, .int .i64 m, .string es] 31 (0, 0))) wr.heap.size 0 ⟨p, m, es⟩ := by
        have hk := heap_alloc_new wr (.cells #[.int .i64 p, .int .i64 m, .string es] 31 (0, 0))
        exact ⟨by rw [Lib.cell_of_heap hk]; rfl, by rw [Lib.cell_of_heap hk]; rfl, by rw [Lib.cell_of_heap hk]; rfl⟩
      have hownA : OwnE (wr.alloc (.cells #[.int .i64 p, .int .i64 m, .string es] 31 (0, 0))) W1.heap.size u5 (bakP s L i) := World.ownsRow.alloc hown _
      have hbA := hbw.alloc hwz (.cells #[.int .i64 p, .int .i64 m, .string es] 31 (0, 0))
      have hgA : wr.heap.size < (wr.alloc (.cells #[.int .i64 p, .int .i64 m, .string es] 31 (0, 0))).heap.size := (Array.getElem?_eq_some_iff.1 (heap_alloc_new wr _)).1
      have hne : some wr.heap.size ≠ u5.ownBlock := fun h => by have := (World.ownsRow.lt hown _ h.symm).2; omega
      clear hown hbw hwz hlim hbk hend h3 hm
      replace hSA := hide hSA
      replace hownA := hide hownA
      replace hne := hide hne
      replace hbA := hide hbA
      go_upto_region 8 with fail
      replace hSA := unhide hSA
      replace hownA := unhide hownA
      replace hbA := unhide hbA
      replace hne := unhide hne
      clear x0 x1 x2
      generalize hWA : World.alloc wr _ = WA at *
      replace hown : OwnE WA.drew W1.heap.size u5 (bakP s L i) := hownA
      replace hbw : Below W1.heap.size W1 WA.drew := hbA.drew
      replace hgb : wr.heap.size < WA.drew.heap.size := hgA
      have hS : EdAt WA.drew wr.heap.size 0 ⟨p, m, es⟩ := hSA
      clear hSA hownA hbA hgA hWA
      generalize wr.heap.size = gb at *
      refine wp_region_held_drew (S := fun w' => EdAt w' gb 0 ⟨p, m, es⟩) (by kernel_rfl) hS (fun _ => ?_)
      generalize World.drew WA = W at hown hbw hS hgb ⊢
      have hsb := hbw.size
      refine wpAnyH_take (i := 0) (v := u5) rfl (by kernel_rfl) (by kernel_rfl) (by kernel_rfl) (fun _ _ _ h => h) (Or.inl ⟨by kernel_rfl, ?_⟩) hS ?_
      · intro w hSw; go_simp
      try simp only [List.getElem_toArray, List.getElem_cons_succ, List.getElem_cons_zero, Act.put, List.setIfInBounds_toArray, List.set_cons_zero, List.set_cons_succ]
      refine wpAnyH_take (i := 1) (v := .pointer (some ⟨gb, 0, none⟩)) rfl (by kernel_rfl) (by kernel_rfl) (by kernel_rfl) (fun _ _ _ h => h) (Or.inl ⟨by kernel_rfl, ?_⟩) hS ?_
      · intro w hSw; go_simp
      try simp only [List.getElem_toArray, List.getElem_cons_succ, List.getElem_cons_zero, Act.put, List.setIfInBounds_toArray, List.set_cons_zero, List.set_cons_succ]
      refine wpAnyH_take (i := 2) (v := .int .i64 p) rfl (by kernel_rfl) (by kernel_rfl) (by kernel_rfl) (fun _ _ _ h => h) (Or.inl ⟨by kernel_rfl, ?_⟩) hS ?_
      · intro w hSw; obtain ⟨x0, x1, x2⟩ := hSw; dsimp only at *; go_simp
      try simp only [List.getElem_toArray, List.getElem_cons_succ, List.getElem_cons_zero, Act.put, List.setIfInBounds_toArray, List.set_cons_zero, List.set_cons_succ]
      refine wpAnyH_take (i := 3) (v := .int .i64 sh) rfl (by kernel_rfl) (by kernel_rfl) (by kernel_rfl) (fun _ _ _ h => h) (Or.inl ⟨by kernel_rfl, ?_⟩) hS ?_
      · intro w hSw; go_simp
      try simp only [List.getElem_toArray, List.getElem_cons_succ, List.getElem_cons_zero, Act.put, List.setIfInBounds_toArray, List.set_cons_zero, List.set_cons_succ]
      refine wpAnyH_take (i := 4) (v := .int .i64 (p + sh)) rfl (by kernel_rfl) (by kernel_rfl) (by kernel_rfl) (fun _ _ _ h => h) (Or.inl ⟨by kernel_rfl, ?_⟩) hS ?_
      · intro w hSw; go_simp
      try simp only [List.getElem_toArray, List.getElem_cons_succ, List.getElem_cons_zero, Act.put, List.setIfInBounds_toArray, List.set_cons_zero, List.set_cons_succ]
      refine wpAnyH_take (i := 5) (v := .pointer (some ⟨gb, 2, none⟩)) rfl (by kernel_rfl) (by kernel_rfl) (by kernel_rfl) (fun _ _ _ h => h) (Or.inl ⟨by kernel_rfl, ?_⟩) hS ?_
      · intro w hSw; go_simp
      try simp only [List.getElem_toArray, List.getElem_cons_succ, List.getElem_cons_zero, Act.put, List.setIfInBounds_toArray, List.set_cons_zero, List.set_cons_succ]
      refine wpAnyH_take (i := 6) (v := .string es) rfl (by kernel_rfl) (by kernel_rfl) (by kernel_rfl) (fun _ _ _ h => h) (Or.inl ⟨by kernel_rfl, ?_⟩) hS ?_
      · intro w hSw; obtain ⟨x0, x1, x2⟩ := hSw; dsimp only at *; go_simp
      try simp only [List.getElem_toArray, List.getElem_cons_succ, List.getElem_cons_zero, Act.put, List.setIfInBounds_toArray, List.set_cons_zero, List.set_cons_succ]
      refine wpAnyH_take (i := 7) (v := .int .i64 es.size) rfl (by kernel_rfl) (by kernel_rfl) (by kernel_rfl) (fun _ _ _ h => h) (Or.inl ⟨by kernel_rfl, ?_⟩) hS ?_
      · intro w hSw; go_simp
      try simp only [List.getElem_toArray, List.getElem_cons_succ, List.getElem_cons_zero, Act.put, List.setIfInBounds_toArray, List.set_cons_zero, List.set_cons_succ]
      refine wpAnyH_take (i := 8) (v := .string s) rfl (by kernel_rfl) (by kernel_rfl) (by kernel_rfl) (fun _ _ _ h => h) (Or.inl ⟨by kernel_rfl, ?_⟩) hS ?_
      · intro w hSw; go_simp
      try simp only [List.getElem_toArray, List.getElem_cons_succ, List.getElem_cons_zero, Act.put, List.setIfInBounds_toArray, List.set_cons_zero, List.set_cons_succ]
      refine wpAnyH_take (i := 9) (v := .pointer (some ⟨gb, 0, none⟩)) rfl (by kernel_rfl) (by kernel_rfl) (by kernel_rfl) (fun _ _ _ h => h) (Or.inl ⟨by kernel_rfl, ?_⟩) hS ?_
      · intro w hSw; go_simp
      try simp only [List.getElem_toArray, List.getElem_cons_succ, List.getElem_cons_zero, Act.put, List.setIfInBounds_toArray, List.set_cons_zero, List.set_cons_succ]
      refine wpAnyH_take (i := 10) (v := .int .i64 p) rfl (by kernel_rfl) (by kernel_rfl) (by kernel_rfl) (fun _ _ _ h => h) (Or.inl ⟨by kernel_rfl, ?_⟩) hS ?_
      · intro w hSw; obtain ⟨x0, x1, x2⟩ := hSw; dsimp only at *; go_simp
      try simp only [List.getElem_toArray, List.getElem_cons_succ, List.getElem_cons_zero, Act.put, List.setIfInBounds_toArray, List.set_cons_zero, List.set_cons_succ]
      refine wpAnyH_take (i := 11) (v := .pointer (some ⟨gb, 0, none⟩)) rfl (by kernel_rfl) (by kernel_rfl) (by kernel_rfl) (fun _ _ _ h => h) (Or.inl ⟨by kernel_rfl, ?_⟩) hS ?_
      · intro w hSw; go_simp
      try simp only [List.getElem_toArray, List.getElem_cons_succ, List.getElem_cons_zero, Act.put, List.setIfInBounds_toArray, List.set_cons_zero, List.set_cons_succ]
      refine wpAnyH_take (i := 12) (v := .int .i64 p) rfl (by kernel_rfl) (by kernel_rfl) (by kernel_rfl) (fun _ _ _ h => h) (Or.inl ⟨by kernel_rfl, ?_⟩) hS ?_
      · intro w hSw; obtain ⟨x0, x1, x2⟩ := hSw; dsimp only at *; go_simp
      try simp only [List.getElem_toArray, List.getElem_cons_succ, List.getElem_cons_zero, Act.put, List.setIfInBounds_toArray, List.set_cons_zero, List.set_cons_succ]
      refine wpAnyH_take (i := 13) (v := .pointer (some ⟨gb, 1, none⟩)) rfl (by kernel_rfl) (by kernel_rfl) (by kernel_rfl) (fun _ _ _ h => h) (Or.inl ⟨by kernel_rfl, ?_⟩) hS ?_
      · intro w hSw; go_simp
      try simp only [List.getElem_toArray, List.getElem_cons_succ, List.getElem_cons_zero, Act.put, List.setIfInBounds_toArray, List.set_cons_zero, List.set_cons_succ]
      refine wpAnyH_take (i := 14) (v := .int .i64 m) rfl (by kernel_rfl) (by kernel_rfl) (by kernel_rfl) (fun _ _ _ h => h) (Or.inl ⟨by kernel_rfl, ?_⟩) hS ?_
      · intro w hSw; obtain ⟨x0, x1, x2⟩ := hSw; dsimp only at *; go_simp
      try simp only [List.getElem_toArray, List.getElem_cons_succ, List.getElem_cons_zero, Act.put, List.setIfInBounds_toArray, List.set_cons_zero, List.set_cons_succ]
      refine wpAnyH_take (i := 15) (v := .int .i64 (p + m)) rfl (by kernel_rfl) (by kernel_rfl) (by kernel_rfl) (fun _ _ _ h => h) (Or.inl ⟨by kernel_rfl, ?_⟩) hS ?_
      · intro w hSw; go_simp
      try simp only [List.getElem_toArray, List.getElem_cons_succ, List.getElem_cons_zero, Act.put, List.setIfInBounds_toArray, List.set_cons_zero, List.set_cons_succ]
      refine wpAnyH_take (i := 16) (v := .string (s.extract p (p + m))) rfl (by kernel_rfl) (by kernel_rfl) (by kernel_rfl) (fun _ _ _ h => h) (Or.inl ⟨by kernel_rfl, ?_⟩) hS ?_
      · intro w hSw; go_simp; rw [if_pos (by omega), if_pos (by omega), show ((p : Int) + m).toNat = p + m by omega]
      try simp only [List.getElem_toArray, List.getElem_cons_succ, List.getElem_cons_zero, Act.put, List.setIfInBounds_toArray, List.set_cons_zero, List.set_cons_succ]
      refine wpAnyH_take (i := 17) (v := .agg #[.int .i64 (p + sh), .int .i64 es.size, .string (s.extract p (p + m))]) rfl (by kernel_rfl) (by kernel_rfl) (by kernel_rfl) (fun _ _ _ h => h) (Or.inl ⟨by kernel_rfl, ?_⟩) hS ?_
      · intro w hSw; go_simp
      try simp only [List.getElem_toArray, List.getElem_cons_succ, List.getElem_cons_zero, Act.put, List.setIfInBounds_toArray, List.set_cons_zero, List.set_cons_succ]
      refine wpAnyH_ready (rs := [18]) (by kernel_rfl) (by simp) ?_
      refine AllReadyH.cons rfl (fun K hK => ?_) AllReadyH.nil
      go_simp
      have hS2 : EdAt (W.alloc (.cells #[.int .i64 (p + sh), .int .i64 es.size, .string (s.extract p (p + m))] 31)) gb 0 ⟨p, m, es⟩ := hS.below hgb (below_alloc _ _)
      have hn := new_ed W ⟨p + sh, es.size, s.extract p (p + m)⟩ (0, 0)
      have hownA : OwnE (W.alloc (.cells #[.int .i64 (p + sh), .int .i64 es.size, .string (s.extract p (p + m))] 31)) W1.heap.size u5 (bakP s L i) := World.ownsRow.alloc hown _
      have hbA := hbw.alloc hsb (.cells #[.int .i64 (p + sh), .int .i64 es.size, .string (s.extract p (p + m))] 31)
      refine hK.out _ _ hS2 (fun hS => ?_)
      clear hK K hS2
      dsimp only at hn
      have hsA := hbA.size
      have hgA : gb < (W.alloc (.cells #[.int .i64 (p + sh), .int .i64 es.size, .string (s.extract p (p + m))] 31)).heap.size := Nat.lt_of_lt_of_le hgb (below_alloc _ _).size
      generalize World.alloc W _ = W2 at *
      generalize W.heap.size = gn at *
      try simp only [List.getElem_toArray, List.getElem_cons_succ, List.getElem_cons_zero, Act.put, List.setIfInBounds_toArray, List.set_cons_zero, List.set_cons_succ]
      refine wpAnyH_ready (rs := [19]) (by kernel_rfl) (by simp) ?_
      refine AllReadyH.cons rfl (fun K hK => ?_) AllReadyH.nil
      rw [if_pos (by kernel_rfl)]
      refine wp_append_ed (v := u5) (.tmp 23) (.tmp 41) rfl ⟨p + sh, es.size, s.extract p (p + m)⟩ rfl hownA ⟨gn, 0, none⟩ rfl hn (by rw [bakP_len]; omega) hsA ?_
      intro v' W3 hown3 hgrow
      have hb3 : Below W1.heap.size W1 W3 := hbA.grown hgrow (by omega) (fun k hk => (hownA.lt k hk).1)
      have hS3 : EdAt W3 gb 0 ⟨p, m, es⟩ := hS.kept (hgrow.block gb hgA hne)
      refine hK.out _ _ hS3 (fun hS => ?_)
      clear hK K hownA hgrow hbA hn
      try simp only [List.getElem_toArray, List.getElem_cons_succ, List.getElem_cons_zero, Act.put, List.setIfInBounds_toArray, List.set_cons_zero, List.set_cons_succ]
      refine wpAnyH_take (i := 20) (v := v') rfl (by kernel_rfl) (by kernel_rfl) (by kernel_rfl) (fun _ _ _ h => h) (Or.inl ⟨by kernel_rfl, ?_⟩) hS ?_
      · intro w hSw; go_simp
      try simp only [List.getElem_toArray, List.getElem_cons_succ, List.getElem_cons_zero, Act.put, List.setIfInBounds_toArray, List.set_cons_zero, List.set_cons_succ]
      refine wpAnyH_done (by kernel_rfl) ?_ _
      obtain ⟨x0, x1, x2⟩ := hS
      dsimp only at x0 x1 x2
      go_wp2
      go_roundg g'
      case measure => omega
      case rel => exact ⟨i + 1, by rw [unhide hsn], by go_num, by omega, by rw [unhide hbi2]; exact hown3, hb3⟩
    · have hlz : ¬ (i : Int) < n := by omega
      obtain rfl : i = n := by omega
      clear h3 hm hB hbk hlim
      go_wp2
      go_ret
      exact ⟨_, rfl, by rw [unhide hend]; exact ownE_base hown hb1.size, below3 hb1 hbw⟩
end Go.Proofs.Ytilakbhekbamiaa
